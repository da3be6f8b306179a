/-
  THE ROW's LISTED TABLE GIVES 'Tab'; ARGUMENTS OPENED.
-/
import Derived.Test.YthegmomjfbcabaaDoorMirror
import Derived.Test.YthegmomjfbcabaaDoorCards
import Derived.Test.YthegmomjfbcabaaDoorTie
import Derived.WalkKit
import Derived.ProofKit
import Derived.OpenShut
import Derived.Deep.DeepHandedRow
import Derived.Lib.LaidTab
import Derived.Lib.SmallJoins
import Derived.ChangeSlices
import Derived.ChangeSame
import Derived.Carry
import Derived.Deep.Slices
namespace Go.Proofs.YthegmomjfbcabaaDoor
open Go.ChangeShapes Go.WideShapes Go.ChangeAt Go.RowKit Go.Joins
theorem gTab : Tryd.prog.globalNamed "padlock/codes.shapes" = some 0 := by kernel_rfl
theorem gTabType : (Tryd.prog.globals[0]?).map (·.type) = some 133 := by kernel_rfl
theorem cellsTab : Tryd.prog.cellsOf 133 = 21 := by kernel_rfl
theorem cellsShape : Tryd.prog.cellsOf 132 = 3 := by kernel_rfl
theorem ownNone : ownKnob Tryd.prog.godebug = none := by kernel_rfl
theorem laidOutP : laidOutB Tryd.prog = true := by kernel_rfl
theorem bytes_ext {s : ByteArray} {l : List UInt8} (h : s.data.toList = l) : s = ⟨l.toArray⟩ := by
  cases s; simp only at h; subst h; simp
section
variable {H : Type} {enc : TypeId × Value → H} {w : World} {base : Nat} {spare : Nat → Bool} {held : Bool} {fuel : Nat}
theorem three_of {cs : List Value} (h : cs.length = 3) : ∃ a b c, cs = [a, b, c] := by
  match cs, h with
  | [a, b, c], _ => exact ⟨a, b, c, rfl⟩
/-- an entry of the table -/
theorem shape_cells {cs : List Value} {x : DataW H × List MemPlace} {a b : List UInt8} {c : Bool} (h : DataW.trod enc Tryd.prog w base spare held fuel 132 cs = some x)
    (hx : x.1 = .agg [.lit (.string a), .lit (.string b), .lit (.bool c)]) : cs = [.string ⟨a.toArray⟩, .string ⟨b.toArray⟩, .bool c] := by
  obtain ⟨xs, n, -, rfl, hcl, hxl, hf⟩ := DataW.trod_struct Tryd.underlying132 h
  obtain ⟨u, v, z, rfl⟩ := three_of (hcl.trans cellsShape)
  match xs, hxl with
  | [x0, x1, x2], _ =>
    simp only [List.map_cons, List.map_nil, DataW.agg.injEq, List.cons.injEq, and_true] at hx
    obtain ⟨e0, e1, e2⟩ := hx
    have h0 : DataW.trod enc Tryd.prog w base spare held n 9 ([u, v, z].take (Tryd.prog.cellsOf 9)) = some x0 := hf 0 _ rfl
    have h1 : DataW.trod enc Tryd.prog w base spare held n 9 ([v, z].take (Tryd.prog.cellsOf 9)) = some x1 := hf 1 _ rfl
    have h2 : DataW.trod enc Tryd.prog w base spare held n 4 ([z].take (Tryd.prog.cellsOf 4)) = some x2 := hf 2 _ rfl
    rw [show Tryd.prog.cellsOf 9 = 1 by kernel_rfl] at h0 h1
    rw [show Tryd.prog.cellsOf 4 = 1 by kernel_rfl] at h2
    obtain ⟨s0, q0, r0, -⟩ := DataW.trod_string Tryd.underlying9 h0
    obtain ⟨s1, q1, r1, -⟩ := DataW.trod_string Tryd.underlying9 h1
    obtain ⟨s2, q2, r2⟩ := DataW.trod_bool Tryd.underlying4 h2
    simp only [List.take_succ_cons, List.take_zero, List.cons.injEq, and_true] at q0 q1 q2
    subst q0 q1 q2 r0 r1 r2
    simp only [DataW.lit.injEq, Lit.string.injEq, Lit.bool.injEq] at e0 e1 e2
    rw [bytes_ext e0, bytes_ext e1, e2]
end
theorem cell_of_var {W : World} {cs : List Value} (hv : W.var? Tryd.prog "padlock/codes.shapes" = some cs.toArray) (i : Nat) (v : Value) (h : cs[i]? = some v) : W.cell? ⟨0, i, none⟩ = some v := by
  rw [World.var?_cell gTab hv i]
  simpa using h
theorem heap_pos {W : World} {v : Value} {b i : Nat} (h : W.cell? ⟨b, i, none⟩ = some v) : b < W.heap.size := by
  rcases Nat.lt_or_ge b W.heap.size with h' | h'
  · exact h'
  · simp [World.cell?, Array.getElem?_eq_none h'] at h
theorem list_parts (cs : List Value) (h : cs.length = 21) (l : List (List Value)) (hl : l.length = 7) (hc : ∀ i, i < 7 → (cs.drop (i * 3)).take 3 = l[i]?.getD []) : cs = l.flatten := by
  match l, hl with
  | [a, b, c, d, e, f, g], _ =>
    have h0 := hc 0 (by decide)
    have h1 := hc 1 (by decide)
    have h2 := hc 2 (by decide)
    have h3 := hc 3 (by decide)
    have h4 := hc 4 (by decide)
    have h5 := hc 5 (by decide)
    have h6 := hc 6 (by decide)
    simp only [List.getElem?_cons_zero, List.getElem?_cons_succ, Option.getD_some] at h0 h1 h2 h3 h4 h5 h6
    simp only [List.flatten_cons, List.flatten_nil, List.append_nil]
    rw [← h0, ← h1, ← h2, ← h3, ← h4, ← h5, ← h6]
    match cs, h with
    | [_, _, _, _, _, _, _, _, _, _, _, _, _, _, _, _, _, _, _, _, _], _ => rfl
/-- what the row's list gives -/
theorem tab_of {W : World} (h : laidMet Tryd.prog [("padlock/codes.shapes", Rows.laid_padlock_codes_shapes)] W) : Tab W := by
  obtain ⟨ps, ⟨g', t', cs, fuel, p, q, hg', ht', hvar, hd, _, _⟩, _⟩ := h
  obtain rfl := Option.some.inj (gTab.symm.trans hg')
  obtain rfl := Option.some.inj (gTabType.symm.trans ht')
  obtain ⟨xs, m, -, hx, hcl, hxl, hat⟩ := DataW.trod_array Tryd.underlying133 hd
  rw [cellsTab] at hcl
  rw [cellsShape] at hat
  have hx1 := congrArg Prod.fst hx
  simp only [Rows.laid_padlock_codes_shapes, DataW.agg.injEq] at hx1
  match xs, hxl with
  | [x0, x1, x2, x3, x4, x5, x6], _ =>
    simp only [List.map_cons, List.map_nil, List.cons.injEq, and_true] at hx1
    obtain ⟨e0, e1, e2, e3, e4, e5, e6⟩ := hx1
    have c0 := shape_cells (hat 0 (by decide)) e0.symm
    have c1 := shape_cells (hat 1 (by decide)) e1.symm
    have c2 := shape_cells (hat 2 (by decide)) e2.symm
    have c3 := shape_cells (hat 3 (by decide)) e3.symm
    have c4 := shape_cells (hat 4 (by decide)) e4.symm
    have c5 := shape_cells (hat 5 (by decide)) e5.symm
    have c6 := shape_cells (hat 6 (by decide)) e6.symm
    have hcs := list_parts cs.toList hcl [_, _, _, _, _, _, _] rfl (fun i hi => by
      match i, hi with
      | 0, _ => exact c0
      | 1, _ => exact c1
      | 2, _ => exact c2
      | 3, _ => exact c3
      | 4, _ => exact c4
      | 5, _ => exact c5
      | 6, _ => exact c6)
    have hv : W.var? Tryd.prog "padlock/codes.shapes" = some cs.toList.toArray := by simpa using hvar
    rw [hcs] at hv
    have hc : ∀ (i : Nat) (v : Value), tabCells[i]? = some v → W.cell? ⟨0, i, none⟩ = some v := fun i v h => cell_of_var hv i v h
    exact ⟨heap_pos (hc 0 _ rfl), hc⟩
end Go.Proofs.YthegmomjfbcabaaDoor
/-
  THE LAST STEP OF A LAW's ROW: the law returns true and below the heap's old size nothing has turned. ARGUMENTS OPENED.
-/
namespace Go.Proofs.YthegmomjfbcabaaDoor
open Go.ChangeShapes Go.WideShapes Go.ChangeAt Go.RowKit Go.Joins Go.Deep
set_option maxRecDepth 100000
section
variable {H : Type} {enc : TypeId × Value → H}
theorem trodAll_below {W W' : World} (hb : Below W.heap.size W W') : ∀ {ts : List TypeId} {vs : List Value} {ds : List (DataW H)} {ps : List MemPlace}, (∀ t ∈ ts, Tryd.prog.readableRec t = true ∧ t < Tryd.prog.types.size) →
    DataW.TrodAll enc Tryd.prog W 0 (fun _ => true) true ts vs ds ps → (∀ x ∈ ps, x.block < W.heap.size) → DataW.TrodAll enc Tryd.prog W' 0 (fun b => decide (b < W.heap.size)) true ts vs ds ps
  | [], [], [], ps, _, h, _ => h
  | t :: ts, v :: vs, d :: ds, ps, ht, ⟨p, q, h1, h2, e⟩, hlt => by
    subst e
    have h0 := ht t (List.mem_cons_self ..)
    exact ⟨p, q, Below.trod laidOutP h0.1 h0.2 h1 hb (fun x hx => hlt x (List.mem_append_left _ hx)),
      trodAll_below hb (fun t' h' => ht t' (List.mem_cons_of_mem _ h')) h2 (fun x hx => hlt x (List.mem_append_right _ hx)), rfl⟩
theorem law_post {f : Func} {s : ChangeSpec} {apart fresh handsOn : Bool} {W W' : World} {args : Array Value} {ds gs : List (DataW H)} {before : List MemPlace}
    (hW : DataW.Whole enc Tryd.prog f.params.toList s.vars apart W args.toList ds gs before) (hb : Below W.heap.size W W') (hrt : f.resultTypes = #[4]) (hsv : s.vars = [])
    (hsr : (s.fn H (ds ++ gs)).results = [.lit (.bool true)]) (hsa : (s.fn H (ds ++ gs)).args = ds) (hsg : (s.fn H (ds ++ gs)).vars = []) (hts : ∀ t ∈ f.params.toList, Tryd.prog.readableRec t = true ∧ t < Tryd.prog.types.size) :
    s.post enc Tryd.prog f apart fresh handsOn false W args (.bool true) W' := by
  have hlt := hW.lt
  have hW0 := hW
  obtain ⟨p, q, hA, hV, rfl, _, _⟩ := hW
  rw [hsv] at hV
  obtain ⟨rfl, rfl⟩ := trodVars_none hV
  simp only [List.append_nil] at hlt
  refine ⟨ds, [], p ++ [], [], p, [], hW0, ?_, ?_, ?_, hb.frame _, fun h => by cases h⟩
  · rw [hrt, hsr]
    exact ⟨[], [], shut_bool Tryd.underlying4 _, rfl, rfl⟩
  · rw [hsa]
    exact trodAll_below hb hts hA hlt
  · rw [hsv, hsg]; rfl
end
theorem heap_pos' {W : World} {v : Value} {a : Addr} (h : W.cell? a = some v) : a.block < W.heap.size := by
  rcases Nat.lt_or_ge a.block W.heap.size with h' | h'
  · exact h'
  · simp [World.cell?, Array.getElem?_eq_none h'] at h
theorem cellsInt : Tryd.prog.cellsOf 3 = 1 := by kernel_rfl
/-- a slice of integers -/
theorem open_intsR {H : Type} {enc : TypeId × Value → H} {W : World} {r : Reach} {b0 : Nat} {v : Value} {d : DataW H} {p : List MemPlace} (hv : Value.okWide Tryd.prog W r b0 24 v) (h : DataW.Trod enc Tryd.prog W 0 (fun _ => true) true 24 v d p) :
    ∃ (A : Option Addr) (c : Nat) (xs : List Int), v = .slice A xs.length c ∧ IntsR W W.heap.size A xs ∧ xs.length ≤ maxLen := by
  obtain ⟨a0, len, cap, rfl⟩ := okWide_slice Tryd.underlying24 hv
  obtain ⟨fuel, hf⟩ := h
  rcases open_ints Tryd.underlying24 Tryd.underlying3 cellsInt hf with ⟨hcs, _⟩ | ⟨a, len', cap', zs, hcs, _, hl, hm, hz, _, hcell, _⟩
  · simp [Value.cells] at hcs
    obtain ⟨rfl, rfl, rfl⟩ := hcs
    exact ⟨none, 0, [], rfl, fun h => absurd h (Nat.lt_irrefl 0), Nat.zero_le _⟩
  · simp [Value.cells] at hcs
    obtain ⟨rfl, rfl, rfl⟩ := hcs
    simp only [if_true] at hz
    have hlen : (zs.take len).length = len := by simp; omega
    refine ⟨some a, cap, zs.take len, by rw [hlen], fun h0 => ⟨a, rfl, ?_, fun j hj => ?_⟩, by rw [hlen]; omega⟩
    · have := heap_pos' (hcell 0 (by omega))
      rwa [block_of_add] at this
    · rw [hlen] at hj
      rw [hcell j (by omega)]
      simp [nth, hj, List.getD]
theorem oneLock : oneCellFields Tryd.prog #[⟨"Wheels", 3, 0, false, "", "", 0⟩, ⟨"Symbols", 3, 1, false, "", "", 8⟩] = true := by kernel_rfl
theorem cellsLock : Tryd.prog.cellsOf 23 = 2 := by kernel_rfl
/-- a lock -/
theorem open_lock {H : Type} {enc : TypeId × Value → H} {W : World} {r : Reach} {b0 : Nat} {v : Value} {d : DataW H} {p : List MemPlace} (hv : Value.okWide Tryd.prog W r b0 23 v) (h : DataW.Trod enc Tryd.prog W 0 (fun _ => true) true 23 v d p) :
    ∃ W' S : Int, v = lockV W' S := by
  obtain ⟨v0, v1, y0, y1, n, rfl, -, -, h0, h1⟩ := open_agg2 Tryd.underlying23 oneLock cellsLock hv h
  obtain ⟨a, e0, -, -⟩ := DataW.trod_int Tryd.underlying3 h0
  obtain ⟨b, e1, -, -⟩ := DataW.trod_int Tryd.underlying3 h1
  simp only [List.cons.injEq, and_true] at e0 e1
  subst e0 e1
  exact ⟨a, b, rfl⟩
/-- a world for a witness: the settled one, the table holding what its initialiser lays -/
noncomputable def laidWorld (os : Os) : World :=
  { World.holding Tryd.prog os ⟨#[], #[], []⟩ with heap := (World.holding Tryd.prog os ⟨#[], #[], []⟩).heap.modify 0 fun
      | .cells _ t frozen => .cells tabCells.toArray t frozen
      | o => o }
end Go.Proofs.YthegmomjfbcabaaDoor
/-
  ARGUMENTS OPENED: a clue; a list of clues.
-/
namespace Go.Proofs.YthegmomjfbcabaaDoor
open Go.ChangeShapes Go.WideShapes Go.ChangeAt Go.RowKit Go.Joins Go.Deep
set_option maxRecDepth 100000
section
variable {H : Type} {enc : TypeId × Value → H} {W : World} {fuel : Nat}
/-- a slice of integers, by its one cell -/
theorem open_ints_cells {cs : List Value} {x : DataW H × List MemPlace} (hf : DataW.trod enc Tryd.prog W 0 (fun _ => true) true fuel 24 cs = some x) :
    ∃ (A : Option Addr) (c : Nat) (xs : List Int), cs = [.slice A xs.length c] ∧ IntsR W W.heap.size A xs ∧ xs.length ≤ maxLen := by
  rcases open_ints Tryd.underlying24 Tryd.underlying3 cellsInt hf with ⟨rfl, _⟩ | ⟨a, len, cap, zs, rfl, _, hl, hm, hz, _, hcell, _⟩
  · exact ⟨none, 0, [], rfl, fun h => absurd h (Nat.lt_irrefl 0), Nat.zero_le _⟩
  · simp only [if_true] at hz
    have hlen : (zs.take len).length = len := by simp; omega
    refine ⟨some a, cap, zs.take len, by rw [hlen], fun h0 => ⟨a, rfl, ?_, fun j hj => ?_⟩, by rw [hlen]; omega⟩
    · have := heap_pos' (hcell 0 (by omega))
      rwa [block_of_add] at this
    · rw [hlen] at hj
      rw [hcell j (by omega)]
      simp [nth, hj, List.getD]
theorem cellsClue : Tryd.prog.cellsOf 26 = 7 := by kernel_rfl
theorem cellsSl : Tryd.prog.cellsOf 24 = 1 := by kernel_rfl
theorem cellsBool : Tryd.prog.cellsOf 4 = 1 := by kernel_rfl
theorem seven_of {cs : List Value} (h : cs.length = 7) : ∃ a b c d e f g, cs = [a, b, c, d, e, f, g] := by
  match cs, h with
  | [a, b, c, d, e, f, g], _ => exact ⟨a, b, c, d, e, f, g, rfl⟩
/-- a clue, by its cells -/
theorem open_clue_cells {cs : List Value} {x : DataW H × List MemPlace} (h : DataW.trod enc Tryd.prog W 0 (fun _ => true) true fuel 26 cs = some x) :
    ∃ (c : Cl) (A : Option Addr) (cap : Nat), cs = (clArr c A cap).toList ∧ IntsR W W.heap.size A c.guess ∧ c.guess.length ≤ maxLen := by
  obtain ⟨xs, n, -, rfl, hcl, hxl, hf⟩ := DataW.trod_struct Tryd.underlying26 h
  obtain ⟨v0, v1, v2, v3, v4, v5, v6, rfl⟩ := seven_of (hcl.trans cellsClue)
  match xs, hxl with
  | [x0, x1, x2, x3, x4, x5, x6], _ =>
    have h0 : DataW.trod enc Tryd.prog W 0 (fun _ => true) true n 3 ([v0, v1, v2, v3, v4, v5, v6].take (Tryd.prog.cellsOf 3)) = some x0 := hf 0 _ rfl
    have h1 : DataW.trod enc Tryd.prog W 0 (fun _ => true) true n 3 ([v1, v2, v3, v4, v5, v6].take (Tryd.prog.cellsOf 3)) = some x1 := hf 1 _ rfl
    have h2 : DataW.trod enc Tryd.prog W 0 (fun _ => true) true n 3 ([v2, v3, v4, v5, v6].take (Tryd.prog.cellsOf 3)) = some x2 := hf 2 _ rfl
    have h3 : DataW.trod enc Tryd.prog W 0 (fun _ => true) true n 3 ([v3, v4, v5, v6].take (Tryd.prog.cellsOf 3)) = some x3 := hf 3 _ rfl
    have h4 : DataW.trod enc Tryd.prog W 0 (fun _ => true) true n 3 ([v4, v5, v6].take (Tryd.prog.cellsOf 3)) = some x4 := hf 4 _ rfl
    have h5 : DataW.trod enc Tryd.prog W 0 (fun _ => true) true n 24 ([v5, v6].take (Tryd.prog.cellsOf 24)) = some x5 := hf 5 _ rfl
    have h6 : DataW.trod enc Tryd.prog W 0 (fun _ => true) true n 4 ([v6].take (Tryd.prog.cellsOf 4)) = some x6 := hf 6 _ rfl
    rw [cellsInt] at h0 h1 h2 h3 h4
    rw [cellsSl] at h5
    rw [cellsBool] at h6
    obtain ⟨n0, q0, -, -⟩ := DataW.trod_int Tryd.underlying3 h0
    obtain ⟨n1, q1, -, -⟩ := DataW.trod_int Tryd.underlying3 h1
    obtain ⟨n2, q2, -, -⟩ := DataW.trod_int Tryd.underlying3 h2
    obtain ⟨n3, q3, -, -⟩ := DataW.trod_int Tryd.underlying3 h3
    obtain ⟨n4, q4, -, -⟩ := DataW.trod_int Tryd.underlying3 h4
    obtain ⟨A, c, g, q5, hg, lg⟩ := open_ints_cells h5
    obtain ⟨b, q6, -⟩ := DataW.trod_bool Tryd.underlying4 h6
    simp only [List.take_succ_cons, List.take_zero, List.cons.injEq, and_true] at q0 q1 q2 q3 q4 q5 q6
    subst q0 q1 q2 q3 q4 q5 q6
    exact ⟨⟨n0, n1, n2, n3, n4, g, b⟩, A, c, rfl, hg, lg⟩
/-- a clue by value -/
theorem open_clue {r : Reach} {b0 : Nat} {v : Value} {d : DataW H} {p : List MemPlace} (hv : Value.okWide Tryd.prog W r b0 26 v) (h : DataW.Trod enc Tryd.prog W 0 (fun _ => true) true 26 v d p) :
    ∃ (c : Cl) (A : Option Addr) (cap : Nat), v = clV c A cap ∧ IntsR W W.heap.size A c.guess ∧ c.guess.length ≤ maxLen := by
  obtain ⟨cs, rfl, -⟩ := okWide_struct Tryd.underlying26 hv
  obtain ⟨fuel, hf⟩ := h
  obtain ⟨c, A, cap, e, h1, h2⟩ := open_clue_cells hf
  refine ⟨c, A, cap, ?_, h1, h2⟩
  have : cs = clArr c A cap := by
    apply Array.toList_inj.1
    simpa [Value.cells] using e
  rw [this]
  rfl
/-- a list of clues -/
theorem open_clues {r : Reach} {b0 : Nat} {v : Value} {d : DataW H} {p : List MemPlace} (hv : Value.okWide Tryd.prog W r b0 38 v) (h : DataW.Trod enc Tryd.prog W 0 (fun _ => true) true 38 v d p) :
    ∃ (A : Option Addr) (c : Nat) (cs : List Cl), v = .slice A cs.length c ∧ ClsR W W.heap.size A cs ∧ cs.length ≤ maxLen := by
  obtain ⟨a0, len, cap, rfl⟩ := okWide_slice Tryd.underlying38 hv
  obtain ⟨fuel, hf⟩ := h
  rcases open_slice Tryd.underlying38 hf with ⟨hcs, _⟩ | ⟨a, len', cap', m, n, D, Pl, hcs, _, hl, hm, hmm, _, hi⟩
  · simp [Value.cells] at hcs
    obtain ⟨rfl, rfl, rfl⟩ := hcs
    exact ⟨none, 0, [], rfl, fun h => absurd h (Nat.lt_irrefl 0), Nat.zero_le _⟩
  · simp [Value.cells] at hcs
    obtain ⟨rfl, rfl, rfl⟩ := hcs
    simp only [if_true] at hmm
    rw [cellsClue] at hi
    have each : ∀ i, i < m → ∃ (c : Cl) (A : Option Addr) (k : Nat), (∀ j v, (clArr c A k)[j]? = some v → W.cell? (a.add (i * 7 + j)) = some v) ∧ IntsR W W.heap.size A c.guess ∧ c.guess.length ≤ maxLen := fun i hi' => by
      obtain ⟨cs', h1, h2⟩ := hi i hi'
      obtain ⟨c, A, k, e, hg, lg⟩ := open_clue_cells h2
      obtain ⟨-, hlen, hc⟩ := World.cells?_some h1
      refine ⟨c, A, k, fun j v hv => ?_, hg, lg⟩
      have hj : j < 7 := (Array.getElem?_eq_some_iff.1 hv).1
      rw [← add_add, hc j hj, e]
      simpa using hv
    let f : Nat → Cl := fun i => if h : i < m then Classical.choose (each i h) else ⟨0, 0, 0, 0, 0, [], false⟩
    have hfl : ((List.range len).map f).length = len := by simp
    refine ⟨some a, cap, (List.range len).map f, by rw [hfl], fun h0 => ?_, by rw [hfl]; omega⟩
    rw [hfl] at h0
    obtain ⟨c0, A0, k0, hc0, -, -⟩ := each 0 (by omega)
    have hz := hc0 0 _ rfl
    obtain ⟨g, o, sp⟩ := a
    have hsp : sp = none := by simpa [Addr.add] using World.cell?_spot hz
    subst hsp
    refine ⟨g, o, rfl, ?_, fun j hj => ?_⟩
    · have := heap_pos' hz
      rwa [block_of_add] at this
    · have hj' : j < len := by rwa [hfl] at hj
      have hjm : j < m := by omega
      have hs := Classical.choose_spec (each j hjm)
      have e : ((List.range len).map f)[j] = Classical.choose (each j hjm) := by simp [f, hjm]
      rw [e]
      obtain ⟨A, k, h1, h2, h3⟩ := hs
      refine ⟨A, k, fun i v hv => ?_, h2, h3⟩
      have := h1 i v hv
      rwa [add_plain, ← Nat.add_assoc] at this
end
end Go.Proofs.YthegmomjfbcabaaDoor
