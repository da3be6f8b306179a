/-
  PURE FACTS of readings, for the laws that do without the reference.
-/
import Derived.Test.YthegmomjfbcabaaDoorBefore
namespace Go.Proofs.YthegmomjfbcabaaDoor
open Go.RowKit
theorem lt_befB {k : Nat} {a b : List Int} (ha : a.length = k) (hb : b.length = k) (h : Lt a b k) : befB a b = true := by
  obtain ⟨i, hi, h1, h2⟩ := h
  have key : ∀ d, d ≤ i → befB a b = befB (a.drop d) (b.drop d) := by
    intro d
    induction d with
    | zero => intro _; rfl
    | succ d ih =>
      intro hd
      rw [ih (by omega), befB_drop (by omega) (by omega), if_pos (show nth a d = nth b d from h1 d (by omega))]
  rw [key i (Nat.le_refl _), befB_drop (by omega) (by omega), if_neg (by show ¬ a[i]?.getD 0 = b[i]?.getD 0; omega)]
  exact decide_eq_true h2
/-- readings in order: the one that stands before comes before -/
theorem rd_sorted {W S : Nat} {cs : List Cl} {i j : Nat} (hij : i < j) (hj : j < (readings W S cs).length) : befB ((readings W S cs)[i]'(by omega)) ((readings W S cs)[j]) = true := by
  have hp : (allCodes W S).Pairwise (fun a b => befB a b = true) := by
    rw [allCodes, List.pairwise_map]
    refine List.Pairwise.imp_of_mem ?_ (List.pairwise_lt_range (n := S ^ W))
    intro a b _ hb hab
    exact lt_befB (dig_length _ _ _) (dig_length _ _ _) (dig_lt W a b hab (List.mem_range.1 hb))
  have hq : (readings W S cs).Pairwise (fun a b => befB a b = true) := hp.filter _
  exact (List.pairwise_iff_getElem.1 hq) i j (by omega) hj hij
theorem codeB_of {W S : Nat} {x : List Int} (hl : x.length = W) (hS : 2 ≤ S) (hS10 : S ≤ 10) (h : ∀ i, i < W → 0 ≤ nth x i ∧ nth x i ≤ S - 1) : codeB W S x = true := by
  rw [codeB, decide_eq_true (by omega : (x.length : Int) = W), Bool.and_true, symsB, List.all_eq_true]
  intro s hs
  obtain ⟨i, hi, rfl⟩ := List.getElem_of_mem hs
  have := h i (by omega)
  rw [nth_lt hi] at this
  rw [wi_pre (by omega) (by omega)]
  exact this
/-- a reading is a code that fits -/
theorem rd_fits {W S : Nat} (hS : 2 ≤ S) (hS10 : S ≤ 10) {cs : List Cl} (hE : cntE W S cs = 0) {x : List Int} (h : x ∈ readings W S cs) : fitE W S cs x = 0 ∧ fitN W S cs x = brk W x cs 0 ∧ fitN W S cs x < 0 ∧ fitB W S cs x = true := by
  obtain ⟨h1, h2, h3, h4, -⟩ := rd_mem hS hS10 h
  have hc := codeB_of h1 hS hS10 h3
  have e : fitE W S cs x = 0 := by rw [fitE_eq, if_pos hE, hc]; rfl
  have e2 : fitN W S cs x = brk W x cs 0 := if_pos e
  have h5 : brk W x cs 0 < 0 := of_decide_eq_true h4
  refine ⟨e, e2, by omega, ?_⟩
  rw [fitB, e, e2, decide_eq_true h5]
  rfl
/-- a code that fits is a reading -/
theorem fits_rd {W S : Nat} (hS : 2 ≤ S) (hS10 : S ≤ 10) {cs : List Cl} {x : List Int} (hc : codeB W S x = true) (hf : brk W x cs 0 < 0) : x ∈ readings W S cs := by
  obtain ⟨h1, h2⟩ := codeB_facts (by omega) (by omega) hc
  obtain ⟨n, hn, e⟩ := dig_surj (s := S) W x (by omega) (fun d hd => by
    obtain ⟨i, hi, rfl⟩ := List.getElem_of_mem hd
    have := h2 i hi
    rw [nth_lt hi] at this
    omega)
  refine List.mem_filter.2 ⟨List.mem_map.2 ⟨n, List.mem_range.2 hn, e⟩, decide_eq_true hf⟩
theorem brk_neg (W : Nat) (x : List Int) : ∀ (cs : List Cl) (i : Int), 0 ≤ i → (brk W x cs i < 0 ↔ ∀ c ∈ cs, holdB W c x = true) := by
  intro cs
  induction cs with
  | nil => intro i _; simp [brk]
  | cons c cs ih =>
    intro i hi
    rw [brk]
    by_cases h : holdB W c x = true
    · rw [if_pos h, ih (i + 1) (by omega)]
      simp [h]
    · rw [if_neg h]
      constructor
      · intro h'; omega
      · intro h'; exact absurd (h' c (by simp)) h
theorem brk_neg_one (W : Nat) (x : List Int) : ∀ (cs : List Cl) (i : Int), 0 ≤ i → brk W x cs i < 0 → brk W x cs i = -1 := by
  intro cs
  induction cs with
  | nil => intro i _ _; rfl
  | cons c cs ih =>
    intro i hi h
    rw [brk] at h ⊢
    split at h
    · rename_i hc; rw [if_pos hc]; exact ih (i + 1) (by omega) h
    · omega
theorem good_iff {W : Nat} {cs : List Cl} {x : List Int} : good W cs x = true ↔ ∀ c ∈ cs, holdB W c x = true := by
  rw [good, decide_eq_true_eq, brk_neg W x cs 0 (Int.le_refl _)]
/-- the opposite of a clue -/
def opp (c : Cl) : Cl := { c with neg := !c.neg }
theorem hold_opp (W : Nat) (c : Cl) (x : List Int) : holdB W (opp c) x = !holdB W c x := by
  have h : sayB W (opp c) x = sayB W c x := rfl
  rw [holdB, holdB, h, opp]
  cases sayB W c x <;> cases c.neg <;> rfl
theorem good_snoc (W : Nat) (cs : List Cl) (c : Cl) (x : List Int) : good W (cs ++ [c]) x = (good W cs x && holdB W c x) := by
  rw [Bool.eq_iff_iff, good_iff, Bool.and_eq_true, good_iff]
  simp [or_imp, forall_and]
theorem filter_parts {α : Type} (p q : α → Bool) (xs : List α) : (xs.filter (fun x => p x && q x)).length + (xs.filter (fun x => p x && !q x)).length = (xs.filter p).length := by
  induction xs with
  | nil => rfl
  | cons x xs ih =>
    cases hp : p x <;> cases hq : q x <;> simp [hp, hq] <;> omega
/-- THE SUM: with a clue, and with its opposite -/
theorem rd_sum (W S : Nat) (cs : List Cl) (c : Cl) : (readings W S (cs ++ [c])).length + (readings W S (cs ++ [opp c])).length = (readings W S cs).length := by
  have h1 : readings W S (cs ++ [c]) = (allCodes W S).filter (fun x => good W cs x && holdB W c x) := List.filter_congr (fun x _ => good_snoc W cs c x)
  have h2 : readings W S (cs ++ [opp c]) = (allCodes W S).filter (fun x => good W cs x && !holdB W c x) := List.filter_congr (fun x _ => by rw [good_snoc, hold_opp])
  rw [h1, h2]
  exact filter_parts _ _ _
end Go.Proofs.YthegmomjfbcabaaDoor
/-
  LISTS OF CLUES IN MEMORY THAT THE CALL ITSELF MADE.
-/
namespace Go.Proofs.YthegmomjfbcabaaDoor
open Go.RowKit
/-- a clue as it lies in memory: with its guess's address and capacity -/
abbrev ClT := Cl × Option Addr × Nat
def clsCells (ts : List ClT) : List Value := ts.flatMap (fun t => (clArr t.1 t.2.1 t.2.2).toList)
theorem clArr_len (c : Cl) (A : Option Addr) (cap : Nat) : (clArr c A cap).toList.length = 7 := rfl
theorem clsCells_length (ts : List ClT) : (clsCells ts).length = ts.length * 7 := by
  induction ts with
  | nil => rfl
  | cons t ts ih => rw [clsCells, List.flatMap_cons, List.length_append, clArr_len, ← clsCells, ih, List.length_cons]; omega
theorem clsCells_at (ts : List ClT) : ∀ (j : Nat) (hj : j < ts.length) (i : Nat), i < 7 → (clsCells ts)[j * 7 + i]? = (clArr ts[j].1 ts[j].2.1 ts[j].2.2)[i]? := by
  induction ts with
  | nil => intro j hj; simp at hj
  | cons t ts ih =>
    intro j hj i hi
    rw [clsCells, List.flatMap_cons, ← clsCells]
    cases j with
    | zero =>
      rw [Nat.zero_mul, Nat.zero_add, List.getElem?_append_left (by rw [clArr_len]; exact hi)]
      simp
    | succ j =>
      rw [List.getElem?_append_right (by rw [clArr_len]; omega), clArr_len, show (j + 1) * 7 + i - 7 = j * 7 + i by omega, ih j (by simpa using hj) i hi]
      rfl
theorem clsCells_one (ts : List ClT) : ∀ u ∈ clsCells ts, u.oneCell' = true := by
  intro u hu
  obtain ⟨t, -, h⟩ := List.mem_flatMap.1 hu
  simp only [clArr, List.mem_cons, List.not_mem_nil, or_false] at h
  rcases h with rfl | rfl | rfl | rfl | rfl | rfl | rfl <;> rfl
theorem clsCells_snoc (ts : List ClT) (t : ClT) : clsCells (ts ++ [t]) = clsCells ts ++ (clArr t.1 t.2.1 t.2.2).toList := by
  simp [clsCells]
theorem plain_add (g o j : Nat) : (⟨g, o, none⟩ : Addr).add j = ⟨g, o + j, none⟩ := by unfold Addr.add; split <;> simp_all
/-- what is read of a list of clues, cell by cell -/
theorem cls_triples {w : World} {B : Nat} {A : Option Addr} {cs : List Cl} (h : ClsR w B A cs) : ∃ ts : List ClT, ts.map (·.1) = cs ∧ (∀ t ∈ ts, IntsR w B t.2.1 t.1.guess ∧ t.1.guess.length ≤ maxLen) ∧
    (0 < cs.length → ∃ g o : Nat, A = some ⟨g, o, none⟩ ∧ g < B ∧ ∀ j u, (clsCells ts)[j]? = some u → w.cell? ((⟨g, o, none⟩ : Addr).add j) = some u) := by
  rcases Nat.eq_zero_or_pos cs.length with h0 | h0
  · have : cs = [] := List.eq_nil_of_length_eq_zero h0
    subst this
    exact ⟨[], rfl, fun t ht => by simp at ht, fun hh => absurd hh (by simp)⟩
  · obtain ⟨g, o, e, hg, hc⟩ := h h0
    let f : Nat → ClT := fun i => if hi : i < cs.length then (cs[i], Classical.choose (hc i hi), Classical.choose (Classical.choose_spec (hc i hi))) else (⟨0, 0, 0, 0, 0, [], false⟩, none, 0)
    have hf : ∀ i (hi : i < cs.length), f i = (cs[i], Classical.choose (hc i hi), Classical.choose (Classical.choose_spec (hc i hi))) := fun i hi => dif_pos hi
    have hspec := fun i (hi : i < cs.length) => Classical.choose_spec (Classical.choose_spec (hc i hi))
    refine ⟨(List.range cs.length).map f, ?_, fun t ht => ?_, fun _ => ⟨g, o, e, hg, fun j u hu => ?_⟩⟩
    · apply List.ext_getElem (by simp)
      intro i h1 h2
      simp [hf i h2]
    · obtain ⟨i, hi, rfl⟩ := List.mem_map.1 ht
      have hi' := List.mem_range.1 hi
      rw [hf i hi']
      exact ⟨(hspec i hi').2.1, (hspec i hi').2.2⟩
    · have hj : j < cs.length * 7 := by
        have := (List.getElem?_eq_some_iff.1 hu).1
        rw [clsCells_length] at this
        simpa using this
      have hq : j / 7 < cs.length := by omega
      have hr : j % 7 < 7 := Nat.mod_lt _ (by decide)
      have hjj : j = j / 7 * 7 + j % 7 := by omega
      have h3 := clsCells_at ((List.range cs.length).map f) (j / 7) (by simpa using hq) (j % 7) hr
      rw [← hjj, hu] at h3
      simp only [List.getElem_map, List.getElem_range, hf _ hq] at h3
      have h4 := (hspec (j / 7) hq).1 (j % 7) u h3.symm
      rw [plain_add]
      rwa [show o + j / 7 * 7 + j % 7 = o + j by omega] at h4
/-- a list of clues that the call owns is one -/
theorem own_cls {w : World} {base : Nat} {v : Value} {ts : List ClT} (h : w.ownsRow base 26 7 v ts.length (clsCells ts)) (hg : ∀ t ∈ ts, IntsR w w.heap.size t.2.1 t.1.guess ∧ t.1.guess.length ≤ maxLen) :
    ∃ (A : Option Addr) (c : Nat), v = .slice A (ts.map (·.1)).length c ∧ ClsR w w.heap.size A (ts.map (·.1)) := by
  rcases h.2 with ⟨rfl, h0⟩ | ⟨g, cap, cur, rfl, _, hh, h1, h2, h3, h4⟩
  · exact ⟨none, 0, by simp [h0], fun hh => absurd hh (by simp [h0])⟩
  · refine ⟨some ⟨g, 0, none⟩, cap, by simp, fun _ => ⟨g, 0, rfl, (Array.getElem?_eq_some_iff.1 hh).1, fun j hj => ?_⟩⟩
    have hj' : j < ts.length := by simpa using hj
    refine ⟨ts[j].2.1, ts[j].2.2, fun i u hu => ?_, ?_⟩
    · have hi : i < 7 := by
        have := (Array.getElem?_eq_some_iff.1 hu).1
        simpa [clArr] using this
      have h5 : (clsCells ts)[j * 7 + i]? = some u := by
        rw [clsCells_at ts j hj' i hi]
        simpa using hu
      rw [← h4, List.getElem?_take_of_lt (by have := Nat.mul_le_mul_right 7 (Nat.succ_le_of_lt hj'); omega)] at h5
      rw [show 0 + j * 7 + i = j * 7 + i by omega]
      have hh' : w.heap[g]? = some (.cells cur.toList.toArray 26 (0, 0)) := by simpa using hh
      rw [cell_of_row w g _ _ _ _ hh']
      simpa using h5
    · have := hg ts[j] (List.getElem_mem hj')
      simpa using this
theorem info_clue : (Tryd.prog.info? 26).map (fun i => (i.zero, i.size, i.bytes)) = some (some (.agg #[.int .i64 0, .int .i64 0, .int .i64 0, .int .i64 0, .int .i64 0, .slice none 0 0, .bool false]), 7, 72) := by kernel_rfl
end Go.Proofs.YthegmomjfbcabaaDoor
/-
  APPEND OF CLUES: onto nil a whole list, onto a list that the call owns one clue more.
-/
namespace Go.Proofs.YthegmomjfbcabaaDoor
open Go.RowKit
theorem wp_append_cls {o : Oper} {a : Act} {w : World} {K : Act → World → Prop} {Q : Exit → Act → World → Prop} (s x : Operand)
    (ho : o.op = .call { callee := .builtin .append, args := #[s, x], argTypes := #[38, 38] })
    (hs : a.eval s = .slice none 0 0) (A : Option Addr) (c : Nat) (ts : List ClT) (n : Nat) (hn : n = ts.length) (hx : a.eval x = .slice A n c)
    (hc : 0 < n → ∃ g o : Nat, A = some ⟨g, o, none⟩ ∧ ∀ j u, (clsCells ts)[j]? = some u → w.cell? ((⟨g, o, none⟩ : Addr).add j) = some u) (hl : n < 20) (B : Nat) (hB : B ≤ w.heap.size)
    (h : ∀ v' w', w'.ownsRow B 26 7 v' n (clsCells ts) → w.grownBy w' none → K (a.put o.dst v') w') : o.wp Tryd.prog a w K Q := by
  subst hn
  obtain ⟨i0, hi, hz0, hz1, hz2⟩ := info_parts info_clue
  rcases Nat.eq_zero_or_pos ts.length with h0 | h0
  · have : ts = [] := List.eq_nil_of_length_eq_zero h0
    subst this
    have hrun : (Builtin.append_ #[38, 38] o.type #[.slice none 0 0, .slice A 0 c]).run Tryd.prog w = .ok (.slice none 0 0) w := by
      cases A <;> simp [Builtin.append_, run_underlying Tryd.underlying38, sizeOf, typeInfo, hi, Builtin.lenOf, Builtin.firstCells, loadCells, loadCellsFrom]
    unfold Oper.wp execOp
    simp only [List.length_nil] at hx
    simp only [ho, resolve, invoke, builtin, Sem.run_bind, Sem.run_pure, Result.andThen_ok, List.map_toArray, List.map_cons, List.map_nil, hs, hx, hrun]
    exact h _ w (World.ownsRow_nil _ _ _ _) ⟨rfl, rfl, rfl, Nat.le_refl _, fun _ _ _ => rfl⟩
  · obtain ⟨g, off, rfl, hcells⟩ := hc h0
    refine wp_append_own _ s x 38 ho B 26 i0 _ 7 72 Tryd.underlying38 hi hz0 hz1 hz2 rfl (by decide) (.slice none 0 0) 0 [] hs (World.ownsRow_nil _ _ _ _) ⟨g, off, none⟩ ts.length c (clsCells ts) hx (clsCells_length ts) hcells (clsCells_one ts) (by unfold maxLen; omega) (by omega) hB ?_
    intro v' w' h1 h2 _
    rw [Nat.zero_add, List.nil_append] at h1
    exact h v' w' h1 h2
theorem wp_append_clue {o : Oper} {a : Act} {w : World} {K : Act → World → Prop} {Q : Exit → Act → World → Prop} (s x : Operand)
    (ho : o.op = .call { callee := .builtin .append, args := #[s, x], argTypes := #[38, 38] })
    (v : Value) (hs : a.eval s = v) (ts : List ClT) (n : Nat) (B : Nat) (hB : B ≤ w.heap.size) (hown : w.ownsRow B 26 7 v n (clsCells ts)) (hl : n < 20)
    (b : Nat) (t : ClT) (hx : a.eval x = .slice (some ⟨b, 0, none⟩) 1 1) (hb : w.heap[b]? = some (.cells (clArr t.1 t.2.1 t.2.2) 26 (0, 0)))
    (h : ∀ v' w', w'.ownsRow B 26 7 v' (n + 1) (clsCells (ts ++ [t])) → w.grownBy w' v.ownBlock → K (a.put o.dst v') w') : o.wp Tryd.prog a w K Q := by
  obtain ⟨i0, hi, hz0, hz1, hz2⟩ := info_parts info_clue
  refine wp_append_own _ s x 38 ho B 26 i0 _ 7 72 Tryd.underlying38 hi hz0 hz1 hz2 rfl (by decide) v n (clsCells ts) hs hown ⟨b, 0, none⟩ 1 1 (clArr t.1 t.2.1 t.2.2).toList hx (by rw [clArr_len]) ?_ ?_ (by unfold maxLen; omega) (by omega) hB ?_
  · intro j u hu
    rw [plain_add, cell_of_row w b _ _ _ _ hb, Nat.zero_add]
    simpa using hu
  · intro u hu
    exact clsCells_one [t] u (by rw [clsCells]; simpa using hu)
  · intro v' w' h1 h2 _
    rw [← clsCells_snoc] at h1
    exact h v' w' h1 h2
/-- what lies before stays, where a list that the call owns grows -/
theorem below_own {w w1 w2 : World} {B n : Nat} {v : Value} {xs : List Value} {e : TypeId} {s : Nat} (hb : Below B w w1) (ho : w1.ownsRow B e s v n xs) (hg : w1.grownBy w2 v.ownBlock) (hB : B ≤ w.heap.size) : Below B w w2 := by
  refine ⟨hg.os.trans hb.os, hg.tape.trans hb.tape, hg.output.trans hb.output, Nat.le_trans hb.size hg.size, fun k hk => ?_⟩
  refine (hg.block k (by have := hb.size; omega) fun e => ?_).trans (hb.block k hk)
  have := (ho.lt k e.symm).1
  omega
theorem below_nil {w w1 w2 : World} {B : Nat} (hb : Below B w w1) (hg : w1.grownBy w2 none) (hB : B ≤ w.heap.size) : Below B w w2 :=
  ⟨hg.os.trans hb.os, hg.tape.trans hb.tape, hg.output.trans hb.output, Nat.le_trans hb.size hg.size, fun k hk => (hg.block k (by have := hb.size; omega) (by simp)).trans (hb.block k hk)⟩
/-- the list with one clue more, as an argument of a call -/
theorem own_cls_snoc {w : World} {B n : Nat} {v : Value} {ts : List ClT} {t : ClT} (h : w.ownsRow B 26 7 v (n + 1) (clsCells (ts ++ [t]))) (hn : n = ts.length) (hg : ∀ t ∈ ts, IntsR w w.heap.size t.2.1 t.1.guess ∧ t.1.guess.length ≤ maxLen) (hg1 : IntsR w w.heap.size t.2.1 t.1.guess ∧ t.1.guess.length ≤ maxLen) :
    ∃ (A : Option Addr) (c : Nat), v = .slice A (ts.map (·.1) ++ [t.1]).length c ∧ ClsR w w.heap.size A (ts.map (·.1) ++ [t.1]) := by
  subst hn
  have := own_cls (ts := ts ++ [t]) (by simpa using h) (fun x hx => by
    rcases List.mem_append.1 hx with hx | hx
    · exact hg x hx
    · rw [List.mem_singleton.1 hx]; exact hg1)
  simpa using this
abbrev OwnC (w : World) (B n : Nat) (u : Value) (ts : List ClT) : Prop := w.ownsRow B 26 7 u n (clsCells ts)
/-- a block with one clue, and the slice of it -/
def OneC (w : World) (B : Nat) (u : Value) (t : ClT) : Prop := ∃ b, u = .slice (some ⟨b, 0, none⟩) 1 1 ∧ B ≤ b ∧ w.heap[b]? = some (.cells (clArr t.1 t.2.1 t.2.2) 26 (0, 0))
theorem OneC.grown {w w' : World} {B : Nat} {u : Value} {t : ClT} (h : OneC w B u t) (hg : w.grownBy w' none) : OneC w' B u t := by
  obtain ⟨b, e, h1, h2⟩ := h
  exact ⟨b, e, h1, (hg.block b (Array.getElem?_eq_some_iff.1 h2).1 (by simp)).trans h2⟩
theorem OneC.alloc {w : World} {B : Nat} (t : ClT) (hB : B ≤ w.heap.size) : OneC (w.alloc (.cells (clArr t.1 t.2.1 t.2.2) 26)) B (.slice (some ⟨w.heap.size, 0, none⟩) 1 1) t :=
  ⟨w.heap.size, rfl, hB, alloc_obj _ _ _ rfl⟩
theorem not_bumped {L : Array Bool} {i : Nat} (hi : i < L.size) (h : (L.setIfInBounds i true).getD i false = false) : False := by
  rw [set_same hi] at h
  cases h
end Go.Proofs.YthegmomjfbcabaaDoor
/-
  PURE FACTS for the law CodesExact.
-/
namespace Go.Proofs.YthegmomjfbcabaaDoor
open Go.RowKit
theorem ex_err {W S : Int} {cs : List Cl} {c : Cl} (hE : cntE W S cs = 0) (hc : clueB W S c = true) (hl : cs.length < 20) : cntE W S (cs ++ [c]) = 0 := by
  obtain ⟨h1, h2⟩ := cntE_facts hE
  rw [cntE_eq, if_pos (lockErr_zero.2 h1), cluesErr, if_neg (by rw [List.length_append]; simp; omega), errIf, if_pos]
  rw [cluesB] at h2 ⊢
  rw [List.all_append, h2, List.all_cons, hc]
  rfl
theorem ex_clue {W S : Int} {c : Cl} (h : rClueErr W S c = 0) : clueB W S c = true := by
  rw [rClueErr_eq] at h
  by_cases h1 : lockErr W S = 0
  · rw [if_pos h1] at h
    by_cases h2 : clueB W S c = true
    · exact h2
    · rw [if_neg h2] at h; simp at h
  · rw [if_neg h1] at h; exact absurd h h1
theorem ex_num {W S : Int} {cs : List Cl} {c : Cl} (hE : cntE W S cs = 0) (h1 : cntE W S (cs ++ [c]) = 0) (h2 : cntE W S (cs ++ [opp c]) = 0) :
    ∃ p q : Nat, cntN W S (cs ++ [c]) = p ∧ cntN W S (cs ++ [opp c]) = q ∧ cntN W S cs = (p : Int) + q ∧ p + q = (readings W.toNat S.toNat cs).length ∧ p + q ≤ 10000 := by
  obtain ⟨W', S', rfl, rfl, _, hW4, _, hS10, _⟩ := cntE_nat hE
  have hb := rd_bound hW4 hS10 cs
  have hs := rd_sum W' S' cs c
  refine ⟨_, _, if_pos h1, if_pos h2, ?_, ?_, ?_⟩
  · rw [cntN, if_pos hE]
    simp only [Int.toNat_natCast]
    omega
  · simpa using hs
  · simp only [Int.toNat_natCast]
    omega
/-- a reading fits, and nothing is wrong -/
theorem ex_fit {W S : Int} {cs : List Cl} (hE : cntE W S cs = 0) {x : List Int} (h : x ∈ readings W.toNat S.toNat cs) : fitE W S cs x = 0 ∧ fitN W S cs x = -1 ∧ fitB W S cs x = true ∧ x.length ≤ 4 := by
  obtain ⟨W', S', rfl, rfl, _, hW4, hS, hS10, _⟩ := cntE_nat hE
  obtain ⟨a, b, c, d⟩ := rd_fits hS hS10 hE (by simpa using h)
  refine ⟨a, ?_, d, ?_⟩
  · rw [b]; rw [b] at c; exact brk_neg_one _ _ _ _ (Int.le_refl _) c
  · have := (rd_mem hS hS10 (cs := cs) (by simpa using h)).1
    omega
/-- a code that fits is a reading -/
theorem ex_mem {W S : Int} {cs : List Cl} (hE : cntE W S cs = 0) {y : List Int} (hf : fitB W S cs y = true) : y ∈ readings W.toNat S.toNat cs := by
  obtain ⟨W', S', rfl, rfl, _, hW4, hS, hS10, _⟩ := cntE_nat hE
  rw [fitB, Bool.and_eq_true, decide_eq_true_eq, decide_eq_true_eq] at hf
  obtain ⟨h1, h2⟩ := hf
  have hc : codeB W' S' y = true := by
    rw [fitE_eq, if_pos hE] at h1
    by_cases h : codeB W' S' y = true
    · exact h
    · rw [if_neg h] at h1; simp at h1
  rw [fitN, if_pos h1] at h2
  simpa using fits_rd hS hS10 hc (by simpa using h2)
theorem ex_code {W S : Int} {cs : List Cl} (hE : cntE W S cs = 0) {y : List Int} (h : rCodeErr W S y = 0) : fitE W S cs y = 0 := by
  have h1 := (cntE_facts hE).1
  rw [rCodeErr, if_pos (lockErr_zero.2 h1)] at h
  rw [fitE_eq, if_pos hE]
  exact h
theorem befB_asymm : ∀ {x y : List Int}, befB x y = true → befB y x = false
  | [], y, h => by rw [befB_nil_left] at h; cases h
  | x :: xs, [], _ => by rw [befB_nil_left]
  | x :: xs, y :: ys, h => by
    rw [befB] at h ⊢
    by_cases e : x = y
    · rw [if_pos e] at h
      rw [if_pos e.symm]
      exact befB_asymm h
    · rw [if_neg e] at h
      rw [if_neg (fun e' => e e'.symm)]
      have := of_decide_eq_true h
      exact decide_eq_false (by omega)
/-- beyond the codes that are listed: the code comes behind the last of them -/
theorem ex_beyond {W S : Nat} {cs : List Cl} {y : List Int} (h : y ∈ readings W S cs) (k : Nat) (hk : 0 < k) (hn : y ∉ (readings W S cs).take k) : ∃ hkl : k < (readings W S cs).length, befB y ((readings W S cs)[k - 1]'(by omega)) = false := by
  obtain ⟨j, hj, rfl⟩ := List.getElem_of_mem h
  have hkj : k ≤ j := by
    rcases Nat.lt_or_ge j k with h1 | h1
    · exact absurd (by rw [List.mem_take_iff_getElem]; exact ⟨j, by omega, rfl⟩) hn
    · exact h1
  exact ⟨by omega, befB_asymm (rd_sorted (by omega) hj)⟩
/-- two neighbours of those that are listed -/
theorem ex_row {W S k : Nat} {cs : List Cl} {L : List (List Int)} (hL : L = (readings W S cs).take k) {j : Nat} (h0 : 0 < j) (hj : j < L.length) : befB (L[j - 1]'(by omega)) L[j] = true := by
  subst hL
  rw [List.getElem_take, List.getElem_take]
  rw [List.length_take] at hj
  exact rd_sorted (by omega) (by omega)
theorem keptC {w1 w' w2 : World} {p q r : Addr} {v u t : Value} (hp : p.block < w1.heap.size) (hq : q.block < w1.heap.size) (hr : r.block < w1.heap.size) (h : Below w1.heap.size w1 w' ∧ w'.cell? p = some v ∧ w'.cell? q = some u ∧ w'.cell? r = some t) (hb : Below w'.heap.size w' w2) :
    Below w1.heap.size w1 w2 ∧ w2.cell? p = some v ∧ w2.cell? q = some u ∧ w2.cell? r = some t :=
  ⟨h.1.trans (hb.mono h.1.size), (hb.cell (by have := h.1.size; omega)).trans h.2.1, (hb.cell (by have := h.1.size; omega)).trans h.2.2.1, (hb.cell (by have := h.1.size; omega)).trans h.2.2.2⟩
theorem ex_take {L : List (List Int)} {y : List Int} {j : Nat} (hj : j < L.length) : decide (y ∈ L.take (j + 1)) = (decide (y ∈ L.take j) || decide (L[j] = y)) := by
  rw [List.take_succ_eq_append_getElem hj, Bool.eq_iff_iff, Bool.or_eq_true, decide_eq_true_eq, decide_eq_true_eq, decide_eq_true_eq, List.mem_append, List.mem_singleton]
  exact ⟨fun h => h.imp id Eq.symm, fun h => h.imp id Eq.symm⟩
theorem last_get {L : List (List Int)} (h : 0 < L.length) : L.getLastD [] = L[L.length - 1]'(by omega) := by
  rw [List.getLastD_eq_getLast?, List.getLast?_eq_getElem?, List.getElem?_eq_getElem (by omega)]
  rfl
/-- a code fits exactly if it is listed, or it fits and lies beyond those that are listed -/
theorem ex_res {W S : Int} {cs : List Cl} (hE : cntE W S cs = 0) {L : List (List Int)} (hL : L = (readings W.toNat S.toNat cs).take 64) {n : Nat} (hn : n = (readings W.toNat S.toNat cs).length) (y : List Int) :
    fitB W S cs y = decide (y ∈ L) ∨ (fitB W S cs y = true ∧ decide (y ∈ L) = false ∧ (decide (L.length < n) && !befB y (L.getLastD [])) = true) := by
  by_cases hy : y ∈ L
  · left
    rw [(ex_fit hE (List.mem_of_mem_take (by rw [← hL]; exact hy))).2.2.1, decide_eq_true hy]
  · cases hf : fitB W S cs y
    · left
      rw [decide_eq_false hy]
    · right
      refine ⟨rfl, decide_eq_false hy, ?_⟩
      obtain ⟨hk, hb⟩ := ex_beyond (ex_mem hE hf) 64 (by decide) (by rw [← hL]; exact hy)
      have hl : L.length = 64 := by rw [hL, List.length_take]; omega
      have e : L.getLastD [] = (readings W.toNat S.toNat cs)[63]'(by omega) := by
        rw [List.getLastD_eq_getLast?, List.getLast?_eq_getElem?, hl, hL, List.getElem?_take_of_lt (by decide), List.getElem?_eq_getElem (by omega)]
        rfl
      rw [decide_eq_true (by omega), e, hb]
      rfl
end Go.Proofs.YthegmomjfbcabaaDoor
