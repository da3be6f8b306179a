/-
  WHAT IS PROVED: P1.6 and P1.12, the law CodesExact: for every lock, clues, further clue and code it returns true and leaves its arguments as they were. Conditions: the row's own: the package variable codes.shapes holds what the program's text lays (the tied card).
-/
import Derived.Test.YthegmomjfbcabaaDoorPost
import Derived.Test.YthegmomjfbcabaaDoorExLaw
namespace Go.Proofs.YthegmomjfbcabaaDoor
open Go.ChangeShapes Go.WideShapes Go.ChangeAt Go.RowKit Go.Joins
namespace exact
set_option maxRecDepth 100000
theorem cellsTrial : Tryd.prog.cellsOf 71 = 8 := by kernel_rfl
theorem eight_of {cs : List Value} (h : cs.length = 8) : ∃ a b c d e f g i, cs = [a, b, c, d, e, f, g, i] := by
  match cs, h with
  | [a, b, c, d, e, f, g, i], _ => exact ⟨a, b, c, d, e, f, g, i, rfl⟩
theorem open_trial {H : Type} {enc : TypeId × Value → H} {W : World} {r : Reach} {b0 : Nat} {v : Value} {d : DataW H} {p : List MemPlace} (hv : Value.okWide Tryd.prog W r b0 71 v) (h : DataW.Trod enc Tryd.prog W 0 (fun _ => true) true 71 v d p) :
    ∃ (c : Cl) (A : Option Addr) (cap : Nat) (A2 : Option Addr) (k2 : Nat) (y : List Int), v = trialV c A cap A2 y.length k2 ∧ IntsR W W.heap.size A c.guess ∧ c.guess.length ≤ maxLen ∧ IntsR W W.heap.size A2 y ∧ y.length ≤ maxLen := by
  obtain ⟨cs, rfl, -⟩ := okWide_struct Tryd.underlying71 hv
  obtain ⟨fuel, hf⟩ := h
  obtain ⟨xs, n, -, -, hcl, hxl, hf⟩ := DataW.trod_struct Tryd.underlying71 hf
  obtain ⟨v0, v1, v2, v3, v4, v5, v6, v7, e⟩ := eight_of (hcl.trans cellsTrial)
  rw [e] at hf
  match xs, hxl with
  | [x0, x1], _ =>
    have h0 : DataW.trod enc Tryd.prog W 0 (fun _ => true) true n 26 ([v0, v1, v2, v3, v4, v5, v6, v7].take (Tryd.prog.cellsOf 26)) = some x0 := hf 0 _ rfl
    have h1 : DataW.trod enc Tryd.prog W 0 (fun _ => true) true n 24 ([v7].take (Tryd.prog.cellsOf 24)) = some x1 := hf 1 _ rfl
    rw [cellsClue] at h0
    rw [cellsSl] at h1
    obtain ⟨c, A, cap, e0, hg, lg⟩ := open_clue_cells h0
    obtain ⟨A2, k2, y, e1, hy, ly⟩ := open_ints_cells h1
    refine ⟨c, A, cap, A2, k2, y, ?_, hg, lg, hy, ly⟩
    simp only [List.take_succ_cons, List.take_zero, clArr, List.cons.injEq, and_true] at e0 e1
    obtain ⟨rfl, rfl, rfl, rfl, rfl, rfl, rfl⟩ := e0
    subst e1
    have : cs = #[I c.kind, I c.a, I c.b, I c.n, I c.m, .slice A c.guess.length cap, .bool c.neg, .slice A2 y.length k2] := by
      apply Array.toList_inj.1
      simpa [Value.cells] using e
    rw [this]
theorem params_read : ∀ t ∈ Tryd.f13.params.toList, Tryd.prog.readableRec t = true ∧ t < Tryd.prog.types.size := by
  intro t ht
  rw [Tryd.params13] at ht
  simp only [List.mem_cons, List.not_mem_nil, or_false] at ht
  rcases ht with rfl | rfl | rfl
  · exact ⟨by kernel_rfl, of_decide_eq_true (by kernel_rfl)⟩
  · exact ⟨by kernel_rfl, of_decide_eq_true (by kernel_rfl)⟩
  · exact ⟨by kernel_rfl, of_decide_eq_true (by kernel_rfl)⟩
theorem contract (H : Type) (enc : TypeId × Value → H) (W : World) (base : Nat) (args : Array Value) (ds gs : List (DataW H)) (before : List MemPlace)
    (hval : ∀ (j : Nat) t v, Tryd.f13.params[j]? = some t → args[j]? = some v → Value.okWide Tryd.prog W .any base t v)
    (hW : DataW.Whole enc Tryd.prog Tryd.f13.params.toList Rows.codesExactSpec.vars false W args.toList ds gs before) (hL : laidMetH Tryd.prog Rows.codesExactRow.laid W) :
    Calls Tryd.prog 13 args W fun e W' => ∃ v, e = .returned v ∧ Rows.codesExactSpec.post enc Tryd.prog Tryd.f13 false true false false W args v W' := by
  have hW' := hW
  obtain ⟨p, q, hA0, hV, rfl, hfz, hnd⟩ := hW
  have hA : DataW.TrodAll enc Tryd.prog W 0 (fun _ => true) true Tryd.f13.params.toList args.toList ds p := hA0
  rw [Tryd.params13] at hA hval
  obtain ⟨v0, v1, v2, d0, d1, d2, p0, p1, p2, rfl, rfl, rfl, h0, h1, h2⟩ := trodAll_three hA
  obtain ⟨l, s, rfl⟩ := open_lock (hval 0 _ v0 rfl rfl) h0
  obtain ⟨A1, k1, x, rfl, hx, lx⟩ := open_clues (hval 1 _ v1 rfl rfl) h1
  obtain ⟨cl, Ag, cap, A2, k2, y, rfl, hg, lg, hy, ly⟩ := open_trial (hval 2 _ v2 rfl rfl) h2
  obtain ⟨rfl, rfl⟩ := trodVars_none hV
  refine (exact_law l s A1 k1 x cl Ag A2 cap k2 y W (tab_of hL) hx lx hg lg hy ly).mono fun e W' ⟨he, hb⟩ => ?_
  exact ⟨_, he, law_post hW' hb rfl rfl rfl rfl rfl params_read⟩
def wargs : Array Value := #[.agg #[.int .i64 0, .int .i64 0], .slice none 0 0, .agg #[.int .i64 0, .int .i64 0, .int .i64 0, .int .i64 0, .int .i64 0, .slice none 0 0, .bool false, .slice none 0 0]]
theorem laid_met (os : Os) : laidMet Tryd.prog Rows.codesExactRow.laid ((laidWorld os).forCall (fun _ _ => 0) ⟨#[], wargs, []⟩).memory :=
  laidMet_of_run' 8 (by kernel_rfl) (by kernel_rfl)
theorem reads (os : Os) {H : Type} (enc : TypeId × Value → H) : ∃ places, DataW.whole enc Tryd.prog ((laidWorld os).forCall (fun _ _ => 0) ⟨#[], wargs, []⟩).memory Tryd.f13.params.toList Rows.codesExactSpec.vars false wargs.toList 8 =
    some ([.agg [.lit (.int .i64 0), .lit (.int .i64 0)], .nil, .agg [.agg [.lit (.int .i64 0), .lit (.int .i64 0), .lit (.int .i64 0), .lit (.int .i64 0), .lit (.int .i64 0), .nil, .lit (.bool false)], .nil]], [], places) := ⟨[], by kernel_rfl⟩
theorem lifted (os : Os) (started : os.Started) (H : Type) (enc : TypeId × Value → H) (F : Stop.Interp) :
    ReturnsInHanded {} Tryd.checked os 13 .any ((OpenSpec.ofChange Rows.codesExactSpec).preRow enc Tryd.prog Tryd.f13 Rows.codesExactRow.domain false Rows.codesExactRow.laid) (((OpenSpec.ofChange Rows.codesExactSpec).at F).post enc Tryd.prog Tryd.f13 false true false false) := by
  obtain ⟨places, hx⟩ := reads os enc
  refine returnsInHanded_of_row (C := Tryd.checked) (s := OpenSpec.ofChange Rows.codesExactSpec) ownNone started (by kernel_rfl) Tryd.func13
    (witness_row_at (enc := enc) (C := Tryd.checked) false (laidWorld os) wargs rfl (by kernel_rfl) (by kernel_rfl) (by kernel_rfl)
      (OpenSpec.preRow_of_cond 8 hx (by kernel_rfl) (fun k hk => by cases hk) (by kernel_rfl) (laid_met os))) ?_
  intro W base args ds gs before hval hW _ _ _ hL _ _
  exact contract H enc W base args ds gs before hval hW hL
theorem said : Rows.CodesExactSaid :=
  OpenClaim.holds_of_cond 13 Tryd.f13 rfl rfl rfl rfl rfl rfl rfl ⟨rfl, rfl, rfl, rfl, rfl⟩ rfl rfl rfl rfl rfl (by kernel_rfl) Tryd.func13 (by kernel_rfl)
    (of_decide_eq_true (by kernel_rfl)) (by unfold Func.isWrapper; first | (rw [if_pos (by decide +kernel)]; kernel_rfl) | (rw [if_neg (by decide +kernel)]; exact ⟨rfl, rfl⟩))
    (fun os started H enc _ F => by rw [OpenClaim.pre_eq_preRow]; exact lifted os started H enc F)
theorem plain (f : FuncId) (fn : Func) (hf : Tryd.pinned.checked.prog.funcNamed "padlock/padlocklaw01.CodesExact" = some f) (hfn : Tryd.pinned.checked.prog.funcs[f]? = some fn) :
    false = Tryd.pinned.checked.prog.looks [] ∧ ∀ (j : Nat) t, fn.params[j]? = some t → Tryd.pinned.checked.prog.wantsStandIn t = false := by
  obtain rfl : f = 13 := Option.some.inj ((show Tryd.prog.funcNamed "padlock/padlocklaw01.CodesExact" = some 13 by kernel_rfl).symm.trans hf) |>.symm
  obtain rfl : fn = Tryd.f13 := (Option.some.inj (Tryd.func13.symm.trans hfn)).symm
  refine ⟨by kernel_rfl, fun j t ht => ?_⟩
  rw [Tryd.params13] at ht
  have hm : t = 23 ∨ t = 38 ∨ t = 71 := by simpa using Array.mem_of_getElem? ht
  rcases hm with rfl | rfl | rfl
  · exact (show Tryd.prog.wantsStandIn 23 = false by kernel_rfl)
  · exact (show Tryd.prog.wantsStandIn 38 = false by kernel_rfl)
  · exact (show Tryd.prog.wantsStandIn 71 = false by kernel_rfl)
end exact
/-- THE CARD -/
theorem codesExact_card : Rows.CodesExactCardSaid :=
  Claim7.holds_tied_plain_at .later [] _ _ _ _ exact.said (fun _ h => by cases h) (by kernel_rfl) (fun _ h => by cases h) codesExact_row_tie rfl ⟨rfl, rfl⟩ (by kernel_rfl) rfl exact.plain (by kernel_rfl)
end Go.Proofs.YthegmomjfbcabaaDoor
