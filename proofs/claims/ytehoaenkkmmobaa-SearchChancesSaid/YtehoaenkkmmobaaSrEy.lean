/-
  LAYER 6, CONTRACT: Example (the law's map).
-/
import Derived.Test.YtehoaenkkmmobaaSrEx
namespace Go.Proofs.Ytehoaenkkmmobaa
open Go.RowKit Go.Shelf
abbrev toE (n : Int) : Ed := ⟨0, 0, 0, n⟩
def exT : List (List Int) := [[1, 2], [0, 3], [0], [4, 1], []]
def exG : List (List Ed) := exT.map (fun l => l.map toE)
def exAt (p : Nat) : List Int := exT[p]?.getD []
def exL : List Int := [3, 2, 4, 1, 0]
theorem info_pos : (Try.prog.info? 119).map (fun i => (i.zero.isSome, decide (i.bytes ≤ 1000))) = some (true, true) := by kernel_rfl
theorem make_pos : ∃ cells, ∀ W : World, (Instr.makeSlice 22 (.int .i64 5) (.int .i64 5)).run Try.prog W = .ok (.slice (some ⟨W.heap.size, 0, none⟩) 5 5) (W.alloc (.cells cells 119)) := by
  obtain ⟨i, hi, hzz⟩ := Option.map_eq_some_iff.1 info_pos
  simp only [Prod.mk.injEq] at hzz
  obtain ⟨z, hz⟩ := Option.isSome_iff_exists.1 hzz.1
  have hb : i.bytes ≤ 1000 := by simpa using hzz.2
  refine ⟨madeCells z.cells (5 * i.size), fun W => ?_⟩
  have hr := run_make (P := Try.prog) W 22 119 i z Try.underlying22 hi hz .i64 .i64 5 5 (by omega) (by omega) (by omega) (by omega)
  exact hr
theorem results_cell_tmp {P : Program} {fn : Func} {p u : Tmp} {ty : TypeId} (h : fn.results = #[.cell p ty, .tmp u]) (tmps : Array Value) (w : World) (g : Nat) (t : TypeId) (cs : Array Value) (fr : Nat × Nat) (d : TypeDesc)
    (hp : tmps.getD p undef = .pointer (some ⟨g, 0, none⟩)) (hg : w.heap[g]? = some (.cells cs t fr))
    (hu : P.underlying ty = some d) (hd : (match d with | .struct _ | .array _ _ => true | _ => false) = true) (hi : (P.info? ty).map (·.size) = some cs.size) :
    (results fn tmps).run P w = .ok (.tuple #[.agg cs, tmps.getD u undef]) w := by
  have hp' : tmps[p]?.getD undef = .pointer (some ⟨g, 0, none⟩) := by simpa using hp
  simp [results, h, hp', asAddr, run_loadVar_row w g t ty cs fr d hg hu hd hi]
theorem info_gr : (Try.prog.info? 25).map (·.size) = some 2 := by kernel_rfl
theorem res_ex : Try.f44.results = #[.cell 0 25, .tmp 1] := by kernel_rfl
theorem GrO.setX {w w' : World} {base X : Nat} {v : Value} {G : List (List Ed)} (h : GrO w base v G) (hg : w.grownBy w' (some X)) (hX : X < base) : GrO w' base v G := by
  obtain ⟨vs, h1, h2⟩ := h
  have hne : ∀ {e : TypeId} {s n : Nat} {u : Value} {xs : List Value}, w.ownsRow base e s u n xs → u.ownBlock = none ∨ u.ownBlock ≠ some X := fun {e s n u xs} ho => by
    cases hq : u.ownBlock with
    | none => exact .inl rfl
    | some k =>
      refine .inr fun e => ?_
      have := (ho.lt k hq).1
      injection e with e
      omega
  refine ⟨vs, h1.kept hg (hne h1), fun j hj => ?_⟩
  obtain ⟨u, e, h3⟩ := h2 j hj
  exact ⟨u, e, h3.kept hg (hne h3)⟩
theorem GrO.rebase {w : World} {base b : Nat} {v : Value} {G : List (List Ed)} (h : GrO w base v G) (hb : b ≤ base) : GrO w b v G := by
  obtain ⟨vs, h1, h2⟩ := h
  refine ⟨vs, own_base h1 hb, fun j hj => ?_⟩
  obtain ⟨u, e, h3⟩ := h2 j hj
  exact ⟨u, e, own_base h3 hb⟩
theorem exG_len : exG.length = 5 := rfl
theorem exT_len : exT.length = 5 := rfl
def xC (N : Nat) (v : Value) : Array Value := #[.slice (some ⟨N + 1 + 1 + 1 + 1 + 1 + 1, 0, none⟩) 5 5, v]
/-- what holds at the head of the outer loop -/
structure ExS (w : World) (w8 wr : World) (p : Nat) (v : Value) : Prop where
  low : Below (w.heap.size + 1 + 1 + 1 + 1 + 1 + 1 + 1) w8 wr
  X : wr.heap[w.heap.size + 1 + 1 + 1 + 1 + 1 + 1 + 1]? = some (.cells (xC w.heap.size v) 25 (0, 0))
  g : GrO wr (w.heap.size + 1 + 1 + 1 + 1 + 1 + 1 + 1 + 1) v (exG.take p)
set_option maxRecDepth 100000 in
set_option maxHeartbeats 4000000 in
theorem Example_any (w : World) :
    Calls Try.prog 44 #[] w fun e w' => ∃ AP AE AD cP cE cD, e = .returned (.tuple #[grV AP AE 5 cP 5 cE, .slice AD 5 cD]) ∧ MdR w' AE AD exG exL ∧ Below w.heap.size w w' := by
  obtain ⟨pc, hmk⟩ := make_pos
  obtain ⟨N, hN⟩ : ∃ N, N = w.heap.size := ⟨_, rfl⟩
  obtain ⟨w1, hw1, hs1, y1, hb1⟩ := one_box w (.cells #[.slice none 0 0, .slice none 0 0] 25)
  obtain ⟨w2, hw2, hs2, y2, hb2⟩ := one_box w1 (.cells (([1, 2] : List Int).map I).toArray 3)
  obtain ⟨w3, hw3, hs3, y3, hb3⟩ := one_box w2 (.cells (([0, 3] : List Int).map I).toArray 3)
  obtain ⟨w4, hw4, hs4, y4, hb4⟩ := one_box w3 (.cells (([0] : List Int).map I).toArray 3)
  obtain ⟨w5, hw5, hs5, y5, hb5⟩ := one_box w4 (.cells (([4, 1] : List Int).map I).toArray 3)
  obtain ⟨w6, hw6, hs6, y6, hb6⟩ := one_box w5 (.cells #[.slice (some ⟨w.heap.size + 1, 0, none⟩) 2 2, .slice (some ⟨w.heap.size + 1 + 1, 0, none⟩) 2 2, .slice (some ⟨w.heap.size + 1 + 1 + 1, 0, none⟩) 1 1, .slice (some ⟨w.heap.size + 1 + 1 + 1 + 1, 0, none⟩) 2 2, .slice none 0 0] 26)
  obtain ⟨w7, hw7, hs7, y7, hb7⟩ := one_box w6 (.cells pc 119)
  obtain ⟨w8, hw8, hs8, y8, hb8⟩ := one_box w7 (.cells (xC w.heap.size (.slice none 0 0)) 25)
  have z2 : w8.heap[w.heap.size + 1]? = some (.cells (([1, 2] : List Int).map I).toArray 3 (0, 0)) := by
    rw [hs1] at y2
    exact (hb8.block _ (by omega)).trans ((hb7.block _ (by omega)).trans ((hb6.block _ (by omega)).trans ((hb5.block _ (by omega)).trans ((hb4.block _ (by omega)).trans ((hb3.block _ (by omega)).trans y2)))))
  have z3 : w8.heap[w.heap.size + 1 + 1]? = some (.cells (([0, 3] : List Int).map I).toArray 3 (0, 0)) := by
    rw [hs2, hs1] at y3
    exact (hb8.block _ (by omega)).trans ((hb7.block _ (by omega)).trans ((hb6.block _ (by omega)).trans ((hb5.block _ (by omega)).trans ((hb4.block _ (by omega)).trans y3))))
  have z4 : w8.heap[w.heap.size + 1 + 1 + 1]? = some (.cells (([0] : List Int).map I).toArray 3 (0, 0)) := by
    rw [hs3, hs2, hs1] at y4
    exact (hb8.block _ (by omega)).trans ((hb7.block _ (by omega)).trans ((hb6.block _ (by omega)).trans ((hb5.block _ (by omega)).trans y4)))
  have z5 : w8.heap[w.heap.size + 1 + 1 + 1 + 1]? = some (.cells (([4, 1] : List Int).map I).toArray 3 (0, 0)) := by
    rw [hs4, hs3, hs2, hs1] at y5
    exact (hb8.block _ (by omega)).trans ((hb7.block _ (by omega)).trans ((hb6.block _ (by omega)).trans y5))
  have z6 : w8.heap[w.heap.size + 1 + 1 + 1 + 1 + 1]? = some (.cells #[.slice (some ⟨w.heap.size + 1, 0, none⟩) 2 2, .slice (some ⟨w.heap.size + 1 + 1, 0, none⟩) 2 2, .slice (some ⟨w.heap.size + 1 + 1 + 1, 0, none⟩) 1 1, .slice (some ⟨w.heap.size + 1 + 1 + 1 + 1, 0, none⟩) 2 2, .slice none 0 0] 26 (0, 0)) := by
    rw [hs5, hs4, hs3, hs2, hs1] at y6
    exact (hb8.block _ (by omega)).trans ((hb7.block _ (by omega)).trans y6)
  have z8 : w8.heap[w.heap.size + 1 + 1 + 1 + 1 + 1 + 1 + 1]? = some (.cells (xC w.heap.size (.slice none 0 0)) 25 (0, 0)) := by
    rw [hs7, hs6, hs5, hs4, hs3, hs2, hs1] at y8
    exact y8
  have hS8 : w8.heap.size = w.heap.size + 1 + 1 + 1 + 1 + 1 + 1 + 1 + 1 := by omega
  have hB8 : Below w.heap.size w w8 := by
    rw [hw8, hw7, hw6, hw5, hw4, hw3, hw2, hw1]
    exact ((((((((Below.refl _ _).alloc (Nat.le_refl _) _).alloc (by simp) _).alloc (by simp; omega) _).alloc (by simp; omega) _).alloc (by simp; omega) _).alloc (by simp; omega) _).alloc (by simp; omega) _).alloc (by simp; omega) _
  -- the lists of 'to'
  have hto : ∀ p, p < 5 → ∃ A' c', w8.cell? ⟨w.heap.size + 1 + 1 + 1 + 1 + 1, p, none⟩ = some (.slice A' (exAt p).length c') ∧ IntsR w8 (w.heap.size + 1 + 1 + 1 + 1 + 1 + 1) A' (exAt p) := fun p h => by
    have i2 : IntsR w8 (w.heap.size + 1 + 1 + 1 + 1 + 1 + 1) (some ⟨w.heap.size + 1, 0, none⟩) [1, 2] := fun h0 => by
      obtain ⟨ad, e, -, hc⟩ := ints_block z2 h0
      exact ⟨ad, e, by injection e with e; rw [← e]; show w.heap.size + 1 < _; omega, hc⟩
    have i3 : IntsR w8 (w.heap.size + 1 + 1 + 1 + 1 + 1 + 1) (some ⟨w.heap.size + 1 + 1, 0, none⟩) [0, 3] := fun h0 => by
      obtain ⟨ad, e, -, hc⟩ := ints_block z3 h0
      exact ⟨ad, e, by injection e with e; rw [← e]; show w.heap.size + 1 + 1 < _; omega, hc⟩
    have i4 : IntsR w8 (w.heap.size + 1 + 1 + 1 + 1 + 1 + 1) (some ⟨w.heap.size + 1 + 1 + 1, 0, none⟩) [0] := fun h0 => by
      obtain ⟨ad, e, -, hc⟩ := ints_block z4 h0
      exact ⟨ad, e, by injection e with e; rw [← e]; show w.heap.size + 1 + 1 + 1 < _; omega, hc⟩
    have i5 : IntsR w8 (w.heap.size + 1 + 1 + 1 + 1 + 1 + 1) (some ⟨w.heap.size + 1 + 1 + 1 + 1, 0, none⟩) [4, 1] := fun h0 => by
      obtain ⟨ad, e, -, hc⟩ := ints_block z5 h0
      exact ⟨ad, e, by injection e with e; rw [← e]; show w.heap.size + 1 + 1 + 1 + 1 < _; omega, hc⟩
    have hp : p = 0 ∨ p = 1 ∨ p = 2 ∨ p = 3 ∨ p = 4 := by omega
    rcases hp with rfl | rfl | rfl | rfl | rfl
    · exact ⟨_, _, cell_of_row w8 _ 0 _ _ _ z6, i2⟩
    · exact ⟨_, _, cell_of_row w8 _ 1 _ _ _ z6, i3⟩
    · exact ⟨_, _, cell_of_row w8 _ 2 _ _ _ z6, i4⟩
    · exact ⟨_, _, cell_of_row w8 _ 3 _ _ _ z6, i5⟩
    · exact ⟨_, _, cell_of_row w8 _ 4 _ _ _ z6, IntsR.nil⟩
  have z1 : w8.heap[w.heap.size]? = some (.cells #[.slice none 0 0, .slice none 0 0] 25 (0, 0)) := (hb8.block _ (by omega)).trans ((hb7.block _ (by omega)).trans ((hb6.block _ (by omega)).trans ((hb5.block _ (by omega)).trans ((hb4.block _ (by omega)).trans ((hb3.block _ (by omega)).trans ((hb2.block _ (by omega)).trans y1))))))
  have HR8 := Lib.hid z1
  have HTO := Lib.hid hto
  have HB8 := Lib.hid hB8
  have HS := Lib.hid (show ExS w w8 w8 0 (.slice none 0 0) from { low := Below.refl _ _, X := z8, g := ⟨[], World.ownsRow_nil _ _ _ _, fun j h => absurd h (Nat.not_lt_zero j)⟩ })
  have W8 : w8 = (((((((w.alloc (.cells #[.slice none 0 0, .slice none 0 0] 25)).alloc (.cells #[.int .i64 1, .int .i64 2] 3)).alloc (.cells #[.int .i64 0, .int .i64 3] 3)).alloc (.cells #[.int .i64 0] 3)).alloc (.cells #[.int .i64 4, .int .i64 1] 3)).alloc (.cells #[.slice (some ⟨w.heap.size + 1, 0, none⟩) 2 2, .slice (some ⟨w.heap.size + 1 + 1, 0, none⟩) 2 2, .slice (some ⟨w.heap.size + 1 + 1 + 1, 0, none⟩) 1 1, .slice (some ⟨w.heap.size + 1 + 1 + 1 + 1, 0, none⟩) 2 2, .slice none 0 0] 26)).alloc (.cells pc 119)).alloc (.cells (xC w.heap.size (.slice none 0 0)) 25) := by
    rw [hw8, hw7, hw6, hw5, hw4, hw3, hw2, hw1]; rfl
  clear hw1 hw2 hw3 hw4 hw5 hw6 hw7 hw8 hs1 hs2 hs3 hs4 hs5 hs6 hs7 hs8 y1 y2 y3 y4 y5 y6 y7 y8 hb1 hb2 hb3 hb4 hb5 hb6 hb7 hb8 z1 z2 z3 z4 z5 z6 z8 hto hB8 hN N w1 w2 w3 w4 w5 w6 w7
  go_enter Try.func44, Try.ntmps44
  go_upto_region 3 with fail
  rw [show (#[Value.slice (some ⟨w.heap.size + 1 + 1 + 1 + 1 + 1 + 1, 0, none⟩) 5 5, Value.slice none 0 0] : Array Value) = xC w.heap.size (.slice none 0 0) from rfl, ← W8]
  clear W8
  go_wp2_with fail
  go_loopw [4] (fun i wr => ∃ (p : Nat) (v : Value), p ≤ 5 ∧ i = .int .i64 p ∧ Hid (ExS w w8 wr p v)) (fun i _ => 5 - (intOf i).toNat)
  case atStart => exact ⟨0, _, Nat.zero_le _, rfl, HS⟩
  case round =>
    obtain ⟨p, v, hp, rfl, H⟩ := hrel
    obtain ⟨wo, hwo⟩ : ∃ wo : World, wo = wr := ⟨_, rfl⟩
    rw [← hwo] at H
    rw [← hwo]
    clear hwo HS
    have h := H.out
    have hX := h.X
    have hso := h.low.size
    by_cases hlt : p < 5
    · obtain ⟨A', c', hc0, hi0⟩ := HTO.out p hlt
      have d5 : decide ((p : Int) < 5) = true := decide_eq_true (by omega)
      have d5' : decide (p < 5) = true := decide_eq_true hlt
      have hTK : exG.take (p + 1) = exG.take p ++ [(exAt p).map toE] := by
        have hp' : p = 0 ∨ p = 1 ∨ p = 2 ∨ p = 3 ∨ p = 4 := by omega
        rcases hp' with rfl | rfl | rfl | rfl | rfl <;> rfl
      have hln : (exAt p).length ≤ 2 := by
        have : ∀ p, p < 5 → (exAt p).length ≤ 2 := by decide
        exact this p hlt
      obtain ⟨l, hl⟩ : ∃ l, l = exAt p := ⟨_, rfl⟩
      rw [← hl] at hc0 hi0 hTK hln
      have cT : wo.cell? ⟨w.heap.size + 1 + 1 + 1 + 1 + 1, p, none⟩ = some (.slice A' l.length c') := (h.low.cell (p := ⟨w.heap.size + 1 + 1 + 1 + 1 + 1, p, none⟩) (by show w.heap.size + 1 + 1 + 1 + 1 + 1 < _; omega)).trans hc0
      have iT : IntsR wo wo.heap.size A' l := (hi0.below h.low (by omega)).more (by have := hX; have h2 := (Array.getElem?_eq_some_iff.1 hX).1; omega)
      have sX := (Array.getElem?_eq_some_iff.1 hX).1
      have HX := Lib.hid hX
      have HTK := Lib.hid hTK
      have HIT := Lib.hid iT
      have HH := Lib.hid h
      clear h H hX hso hc0 hi0 hTK hl iT
      go_upto_region 8 with fail
      go_wp2_with fail
      go_loopw [6, 5] (fun i u wr => ∃ q : Nat, q ≤ l.length ∧ i = .int .i64 q ∧ OwnE wr wo.heap.size u ((l.take q).map toE) ∧ Below wo.heap.size wo wr) (fun i _ _ => l.length - (intOf i).toNat)
      case atStart => exact ⟨0, Nat.zero_le _, rfl, World.ownsRow_nil _ _ _ _, Below.refl _ _⟩
      case round =>
        obtain ⟨q, hq, rfl, hO, hB⟩ := hrel
        obtain ⟨wi, hwi⟩ : ∃ wi : World, wi = wr := ⟨_, rfl⟩
        rw [← hwi] at hO hB
        rw [← hwi]
        clear hwi
        have cTi : wi.cell? ⟨w.heap.size + 1 + 1 + 1 + 1 + 1, p, none⟩ = some (.slice A' l.length c') := (hB.cell (p := ⟨w.heap.size + 1 + 1 + 1 + 1 + 1, p, none⟩) (by show w.heap.size + 1 + 1 + 1 + 1 + 1 < _; omega)).trans cT
        by_cases hql : q < l.length
        · obtain ⟨ad, rfl, hbA, hcD⟩ := (ints_call hB HIT.out).at_ hql
          obtain ⟨x, hx⟩ : ∃ x, x = nth l q := ⟨_, rfl⟩
          rw [← hx] at hcD
          have HL := Lib.hid (show (l.take (q + 1)).map toE = (l.take q).map toE ++ [toE x] by rw [List.take_succ_eq_append_getElem hql, List.map_append, hx, nth_lt hql]; rfl)
          have hOa : OwnE (wi.alloc (.cells (edC (toE x)) 58)) wo.heap.size u5 ((l.take q).map toE) := own_grown hO (World.grownBy_alloc _ _ _)
          have hba : (wi.alloc (.cells (edC (toE x)) 58)).heap[wi.heap.size]? = some (.cells (edC (toE x)) 58 (0, 0)) := alloc_obj _ _ _ rfl
          have hBa := hB.alloc hB.size (.cells (edC (toE x)) 58)
          have hlen : ((l.take q).map toE).length < 1000 := by simp; omega
          have HBA := Lib.hid hBa
          have HOA := Lib.hid hOa
          clear hx hO hBa
          go_wp2_with (at_builtin; refine wpList_append_ed rfl _ _ rfl u5 rfl ((l.take q).map toE) wo.heap.size HBA.out.size HOA.out hlen wi.heap.size 1 (toE x) rfl hba ?_; intro v' w4 hO4 hg4)
          go_roundw
          case rel => exact ⟨q + 1, by omega, by go_num, by rw [HL.out]; exact hO4, HBA.out.grown hg4 HBA.out.size (fun j hj => (HOA.out.lt j hj).1)⟩
          case measure => simp [intOf]; omega
        · obtain rfl : q = l.length := by omega
          rw [List.take_length] at hO
          have h := HH.out
          have hsl := h.low.size
          have hlp : (exG.take p).length = p := by rw [List.length_take, exG_len]; omega
          obtain ⟨A5, c5, e5⟩ : ∃ A c, u5 = .slice A l.length c := by
            obtain ⟨A, c, e, -⟩ := own_ed hO
            exact ⟨A, c, by rw [e, List.length_map]⟩
          obtain ⟨Av, cv, ev⟩ : ∃ A c, v = .slice A p c := by
            obtain ⟨A, c, e, -⟩ := h.g.gr
            exact ⟨A, c, by rw [e, hlp]⟩
          subst e5 ev
          have hg4len : ∀ (W : World) (v' : Value) (B : Nat), GrO W B v' (exG.take p ++ [l.map toE]) → ∃ A c, v' = .slice A (p + 1) c := fun W v' B hh => by
            obtain ⟨A, c, e, -⟩ := hh.gr
            exact ⟨A, c, by rw [e, List.length_append, hlp]; rfl⟩
          have sXi : w.heap.size + 1 + 1 + 1 + 1 + 1 + 1 + 1 < wi.heap.size := Nat.lt_of_lt_of_le sX hB.size
          have hXi : wi.heap[w.heap.size + 1 + 1 + 1 + 1 + 1 + 1 + 1]? = some (.cells (xC w.heap.size (.slice Av p cv)) 25 (0, 0)) := (hB.block _ sX).trans HX.out
          have cX1 : wi.cell? ⟨w.heap.size + 1 + 1 + 1 + 1 + 1 + 1 + 1, 1, none⟩ = some (.slice Av p cv) := cell_of_row wi _ 1 _ _ _ hXi
          obtain ⟨wa, hwa⟩ : ∃ wa, wa = wi.alloc (.cells #[.slice A5 l.length c5] 54) := ⟨_, rfl⟩
          have hga : wi.grownBy wa none := by rw [hwa]; exact World.grownBy_alloc _ _ _
          have hGa : GrO wa (w.heap.size + 1 + 1 + 1 + 1 + 1 + 1 + 1 + 1) (.slice Av p cv) (exG.take p) := (h.g.grown (grown_of_below hB (Nat.le_refl _))).grown hga
          have hOa : OwnE wa (w.heap.size + 1 + 1 + 1 + 1 + 1 + 1 + 1 + 1) (.slice A5 l.length c5) (l.map toE) := own_base (own_grown hO hga) (by omega)
          have hba : wa.heap[wi.heap.size]? = some (.cells #[.slice A5 l.length c5] 54 (0, 0)) := by rw [hwa]; exact alloc_obj _ _ _ rfl
          have hXa : wa.heap[w.heap.size + 1 + 1 + 1 + 1 + 1 + 1 + 1]? = some (.cells (xC w.heap.size (.slice Av p cv)) 25 (0, 0)) := (hga.block _ sXi (by simp)).trans hXi
          have hBa : Below (w.heap.size + 1 + 1 + 1 + 1 + 1 + 1 + 1) w8 wa := (h.low.trans (hB.mono (by omega))).grown hga (by have := hB.size; omega) (fun j hj => by cases hj)
          have hlen : (exG.take p).length < 1000 := by rw [List.length_take, exG_len]; omega
          have hsa : w.heap.size + 1 + 1 + 1 + 1 + 1 + 1 + 1 + 1 ≤ wa.heap.size := by have := hga.size; omega
          have HBA := Lib.hid hBa
          have HXA := Lib.hid hXa
          have HGA := Lib.hid hGa
          have HOA := Lib.hid hOa
          clear h hO hXi hGa hOa hBa hXa HH HX hga
          go_wp2_with (at_builtin; rw [← hwa]; refine wpList_append_gr rfl _ _ rfl (.slice Av p cv) rfl (exG.take p) (w.heap.size + 1 + 1 + 1 + 1 + 1 + 1 + 1 + 1) hsa HGA.out hlen wi.heap.size 1 (.slice A5 l.length c5) (l.map toE) HOA.out rfl hba ?_; intro v' w4 hG4 hg4; obtain ⟨A4, k4, e4⟩ := hg4len _ _ _ hG4; subst e4; have hvr : ∀ j, (Value.slice Av p cv).ownBlock = some j → w.heap.size + 1 + 1 + 1 + 1 + 1 + 1 + 1 + 1 ≤ j := fun j hj => (by obtain ⟨vs, h1, h2⟩ := HGA.out; exact (h1.lt j hj).1); have hX4 := (hg4.block (w.heap.size + 1 + 1 + 1 + 1 + 1 + 1 + 1) (by omega) (fun e => by have := hvr _ e.symm; omega)).trans HXA.out; have f4 : w4.frozen? ⟨w.heap.size + 1 + 1 + 1 + 1 + 1 + 1 + 1, 1, none⟩ = false := frozen_of_row hX4 1; have c4 : w4.cell? ⟨w.heap.size + 1 + 1 + 1 + 1 + 1 + 1 + 1, 1, none⟩ = some (.slice Av p cv) := cell_of_row w4 _ 1 _ _ _ hX4; have s4 : w.heap.size + 1 + 1 + 1 + 1 + 1 + 1 + 1 < w4.heap.size := row_lt' hX4; have HG4 := Lib.hid hG4; have HX4 := Lib.hid hX4; have Hg4 := Lib.hid hg4; clear hG4 hX4 hg4)
          go_roundw
          case measure => simp [intOf]; omega
          case rel =>
            refine ⟨p + 1, .slice A4 (p + 1) k4, by omega, by go_num, Lib.hid ?_⟩
            have hgs := grown_setCell w4 ⟨w.heap.size + 1 + 1 + 1 + 1 + 1 + 1 + 1, 1, none⟩ (.slice A4 (p + 1) k4)
            have hX5 := row_set HX4.out 1 (.slice A4 (p + 1) k4)
            have hB5 := HBA.out.grown Hg4.out (by omega) (fun j hj => by have := hvr j hj; omega)
            exact { low := hB5.grown hgs (by omega) (fun j hj => by injection hj with hj; rw [← hj]; exact Nat.le_refl _), X := hX5, g := by rw [HTK.out]; exact HG4.out.setX hgs (Nat.lt_succ_self _) }
    · obtain rfl : p = 5 := by omega
      have hGx := h.g
      rw [show exG.take 5 = exG from rfl] at hGx
      obtain ⟨AE, cE, ev, -⟩ := hGx.gr
      rw [exG_len] at ev
      subst ev
      have d5 : decide (((5 : Nat) : Int) < 5) = false := rfl
      have hlow := h.low
      have hBo : Below w.heap.size w wo := HB8.out.trans (hlow.mono (by omega))
      have hXl := (Array.getElem?_eq_some_iff.1 hX).1
      have x0 : wo.cell? ⟨w.heap.size + 1 + 1 + 1 + 1 + 1 + 1 + 1, 0, none⟩ = some (.slice (some ⟨w.heap.size + 1 + 1 + 1 + 1 + 1 + 1, 0, none⟩) 5 5) := cell_of_row wo _ 0 _ _ _ hX
      have x1 : wo.cell? ⟨w.heap.size + 1 + 1 + 1 + 1 + 1 + 1 + 1, 1, none⟩ = some (.slice AE 5 cE) := cell_of_row wo _ 1 _ _ _ hX
      have hR : wo.heap[w.heap.size]? = some (.cells #[.slice none 0 0, .slice none 0 0] 25 (0, 0)) := (hlow.block _ (by omega)).trans HR8.out
      have f0 : wo.frozen? ⟨w.heap.size, 0, none⟩ = false := frozen_of_row hR 0
      have f1 : wo.frozen? ⟨w.heap.size, 1, none⟩ = false := frozen_of_row hR 1
      have r0 : wo.cell? ⟨w.heap.size, 0, none⟩ = some (.slice none 0 0) := cell_of_row wo _ 0 _ _ _ hR
      have r1 : wo.cell? ⟨w.heap.size, 1, none⟩ = some (.slice none 0 0) := cell_of_row wo _ 1 _ _ _ hR
      have s0 : w.heap.size < wo.heap.size := by omega
      have HRo := Lib.hid hR
      have HGX := Lib.hid hGx
      have HBO := Lib.hid hBo
      clear h H hX hGx hlow hBo hR
      go_wp2_with fail
      obtain ⟨wp, hwp⟩ : ∃ wp, wp = (wo.setCell ⟨w.heap.size, 0, none⟩ (.slice (some ⟨w.heap.size + 1 + 1 + 1 + 1 + 1 + 1, 0, none⟩) 5 5)).setCell ⟨w.heap.size, 1, none⟩ (.slice AE 5 cE) := ⟨_, rfl⟩
      rw [← hwp]
      have hsz : wo.heap.size = wp.heap.size := by rw [hwp]; simp
      rw [hsz]
      have hg : wo.grownBy wp (some w.heap.size) := by rw [hwp]; exact grown_trans (grown_setCell _ _ _) (grown_setCell _ _ _)
      have hrow : wp.heap[w.heap.size]? = some (.cells #[.slice (some ⟨w.heap.size + 1 + 1 + 1 + 1 + 1 + 1, 0, none⟩) 5 5, .slice AE 5 cE] 25 (0, 0)) := by
        rw [hwp]
        exact row_set (row_set HRo.out 0 _) 1 _
      obtain ⟨A2, c2, e2, hGR⟩ := (HGX.out.setX hg (by omega)).gr
      injection e2 with e2 _ _
      subst e2
      have hbp : Below w.heap.size w wp := HBO.out.grown hg (Nat.le_of_lt s0) (fun j hj => by injection hj with hj; omega)
      have hrow2 : (wp.alloc (.cells #[Value.int .i64 3, Value.int .i64 2, Value.int .i64 4, Value.int .i64 1, Value.int .i64 0] 3)).heap[w.heap.size]? = _ := (heap_alloc_old wp _ (r := w.heap.size) (by omega)).trans hrow
      refine bodyPost_ret (results_cell_tmp res_ex _ _ w.heap.size 25 _ (0, 0) _ rfl hrow2 Try.underlying25 rfl info_gr) rfl ?_
      exact ⟨_, _, _, _, _, _, rfl, { g := (hGR.below ((Below.refl _ _).alloc (Nat.le_refl _) _) (Nat.le_refl _)).more (by simp), d := ints_new wp exL 3 }, hbp.alloc hbp.size _⟩
end Go.Proofs.Ytehoaenkkmmobaa
