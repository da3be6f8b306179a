/-
  LAYER 6: how a map lies in memory; CONTRACTS: isFinished, stays, waysFrom.
-/
import Derived.Test.YtehoaenkkmmobaaGbB
import Derived.Test.YtehoaenkkmmobaaGbM
import Derived.Test.YtehoaenkkmmobaaSrP
namespace Go.Proofs.Ytehoaenkkmmobaa
open Go.RowKit Go.Shelf
/-- an edge: who does what, and where it leads -/
structure Ed where
  pl : Int
  kd : Int
  nm : Int
  to : Int
instance : Inhabited Ed := ⟨⟨0, 0, 0, 0⟩⟩
abbrev edV (e : Ed) : Value := .agg #[I e.pl, I e.kd, I e.nm, I e.to]
def edC (e : Ed) : Array Value := #[I e.pl, I e.kd, I e.nm, I e.to]
def EdR (w : World) (B : Nat) (A : Option Addr) (es : List Ed) : Prop :=
  0 < es.length → ∃ g o : Nat, A = some ⟨g, o, none⟩ ∧ g < B ∧ ∀ j (h : j < es.length), ∀ i v, (edC es[j])[i]? = some v → w.cell? ⟨g, o + j * 4 + i, none⟩ = some v
theorem EdR.below {w w' : World} {B B' : Nat} {A : Option Addr} {cs : List Ed} (h : EdR w B A cs) (hb : Below B' w w') (hB : B ≤ B') : EdR w' B A cs := fun h0 => by
  obtain ⟨g, o, e, hl, hc⟩ := h h0
  exact ⟨g, o, e, hl, fun j hj i v hv => (hb.cell (p := ⟨g, o + j * 4 + i, none⟩) (by show g < _; omega)).trans (hc j hj i v hv)⟩
theorem EdR.more {w : World} {B B' : Nat} {A : Option Addr} {cs : List Ed} (h : EdR w B A cs) (hB : B ≤ B') : EdR w B' A cs := fun h0 => by
  obtain ⟨g, o, e, hl, hc⟩ := h h0
  exact ⟨g, o, e, by omega, hc⟩
theorem EdR.at_ {w : World} {B : Nat} {A : Option Addr} {es : List Ed} (h : EdR w B A es) {k : Nat} (hk : k < es.length) : ∃ g o : Nat, A = some ⟨g, o, none⟩ ∧ g < B ∧ w.cell? ⟨g, o + k * 4, none⟩ = some (I es[k].pl) ∧ w.cell? ⟨g, o + k * 4 + 1, none⟩ = some (I es[k].kd) ∧
    w.cell? ⟨g, o + k * 4 + 2, none⟩ = some (I es[k].nm) ∧ w.cell? ⟨g, o + k * 4 + 3, none⟩ = some (I es[k].to) := by
  obtain ⟨g, o, e, hl, hc⟩ := h (by omega)
  exact ⟨g, o, e, hl, hc k hk 0 _ rfl, hc k hk 1 _ rfl, hc k hk 2 _ rfl, hc k hk 3 _ rfl⟩
/-- all lists of edges -/
def GrR (w : World) (B : Nat) (A : Option Addr) (G : List (List Ed)) : Prop :=
  0 < G.length → ∃ g o : Nat, A = some ⟨g, o, none⟩ ∧ g < B ∧ ∀ p (h : p < G.length), ∃ Ap cp, w.cell? ⟨g, o + p, none⟩ = some (.slice Ap G[p].length cp) ∧ EdR w B Ap G[p]
theorem GrR.below {w w' : World} {B B' : Nat} {A : Option Addr} {G : List (List Ed)} (h : GrR w B A G) (hb : Below B' w w') (hB : B ≤ B') : GrR w' B A G := fun h0 => by
  obtain ⟨g, o, e, hl, hc⟩ := h h0
  refine ⟨g, o, e, hl, fun p hp => ?_⟩
  obtain ⟨Ap, cp, h1, h2⟩ := hc p hp
  exact ⟨Ap, cp, (hb.cell (p := ⟨g, o + p, none⟩) (by show g < _; omega)).trans h1, h2.below hb hB⟩
theorem GrR.more {w : World} {B B' : Nat} {A : Option Addr} {G : List (List Ed)} (h : GrR w B A G) (hB : B ≤ B') : GrR w B' A G := fun h0 => by
  obtain ⟨g, o, e, hl, hc⟩ := h h0
  refine ⟨g, o, e, by omega, fun p hp => ?_⟩
  obtain ⟨Ap, cp, h1, h2⟩ := hc p hp
  exact ⟨Ap, cp, h1, h2.more hB⟩
theorem GrR.at_ {w : World} {B : Nat} {A : Option Addr} {G : List (List Ed)} (h : GrR w B A G) {p : Nat} (hp : p < G.length) : ∃ g o : Nat, A = some ⟨g, o, none⟩ ∧ g < B ∧ ∃ Ap cp, w.cell? ⟨g, o + p, none⟩ = some (.slice Ap G[p].length cp) ∧ EdR w B Ap G[p] := by
  obtain ⟨g, o, e, hl, hc⟩ := h (by omega)
  exact ⟨g, o, e, hl, hc p hp⟩
/-- a map: its graph and its distances -/
structure MdR (w : World) (AE AD : Option Addr) (G : List (List Ed)) (D : List Int) : Prop where
  g : GrR w w.heap.size AE G
  d : IntsR w w.heap.size AD D
theorem MdR.call {w w' : World} {AE AD : Option Addr} {G : List (List Ed)} {D : List Int} (h : MdR w AE AD G D) (hb : Below w.heap.size w w') : MdR w' AE AD G D := ⟨(h.g.below hb (Nat.le_refl _)).more hb.size, ints_call hb h.d⟩
/-- a valid map -/
structure Vld (G : List (List Ed)) (D : List Int) : Prop where
  pos : 0 < G.length
  many : G.length ≤ 300
  len : D.length = G.length
  few : ∀ p (h : p < G.length), G[p].length ≤ 100
  to : ∀ p (h : p < G.length), ∀ e ∈ G[p], 0 ≤ e.to ∧ e.to < G.length
/-- the edges of a position, by where they lead -/
def eOf (G : List (List Ed)) (p : Nat) : List Nat := (G[p]?.getD []).map fun e => e.to.toNat
def dOf (D : List Int) (p : Nat) : Int := nth D p
theorem eOf_len {G : List (List Ed)} {p : Nat} (h : p < G.length) : (eOf G p).length = G[p].length := by simp [eOf, h]
theorem eOf_tgt {G : List (List Ed)} {D : List Int} (hv : Vld G D) {p k : Nat} (h : p < G.length) (hk : k < G[p].length) : G[p][k].to = (tgt (eOf G) p k : Nat) ∧ tgt (eOf G) p k < G.length := by
  have h1 := hv.to p h G[p][k] (List.getElem_mem hk)
  have e : tgt (eOf G) p k = G[p][k].to.toNat := by simp [tgt, eOf, h, hk]
  rw [e]
  omega
abbrev mdlV (vP : Value) (AE AD : Option Addr) (nE cE nD cD : Nat) : Value := .agg #[vP, .slice AE nE cE, .slice AD nD cD]
theorem isFinished_any (vP : Value) (AE AD : Option Addr) (cE cD : Nat) (G : List (List Ed)) (D : List Int) (p : Nat) (w : World) (hm : MdR w AE AD G D) (hv : Vld G D) (hp : p < G.length) :
    Calls Try.prog 79 #[mdlV vP AE AD G.length cE D.length cD, I p] w fun e w' => e = .returned (.bool (dOf D p == 0)) ∧ Below w.heap.size w w' := by
  obtain ⟨w1, hw1, hs1, y0, hb1⟩ := one_box w (.cells #[vP, .slice AE G.length cE, .slice AD D.length cD] 64)
  have b2 : w1.cell? ⟨w.heap.size, 2, none⟩ = some (.slice AD D.length cD) := cell_of_row w1 _ 2 _ _ _ y0
  have hm1 := hm.call hb1
  have hl := hv.len
  have hmx := hv.many
  obtain ⟨ad, rfl, hbA, hcA⟩ := hm1.d.at_ (k := p) (by omega)
  have hpD : p < D.length := by omega
  clear hm hm1 y0 hl
  go_enter Try.func79, Try.ntmps79
  go_upto_region 1 with fail
  rw [← hw1]
  clear hw1
  go_wp2
  go_ret
  exact ⟨rfl, hb1⟩
set_option maxHeartbeats 1000000 in
theorem stays_any (vP : Value) (AE AD : Option Addr) (cE cD : Nat) (G : List (List Ed)) (D : List Int) (p : Nat) (w : World) (hm : MdR w AE AD G D) (hv : Vld G D) (hp : p < G.length) :
    Calls Try.prog 80 #[mdlV vP AE AD G.length cE D.length cD, I p] w fun e w' => e = .returned (.bool (stay (eOf G) (dOf D) p)) ∧ Below w.heap.size w w' := by
  obtain ⟨w1, hw1, hs1, y0, hb1⟩ := one_box w (.cells #[vP, .slice AE G.length cE, .slice AD D.length cD] 64)
  have b0 : w1.cell? ⟨w.heap.size, 0, none⟩ = some vP := cell_of_row w1 _ 0 _ _ _ y0
  have b1 : w1.cell? ⟨w.heap.size, 1, none⟩ = some (.slice AE G.length cE) := cell_of_row w1 _ 1 _ _ _ y0
  have b2 : w1.cell? ⟨w.heap.size, 2, none⟩ = some (.slice AD D.length cD) := cell_of_row w1 _ 2 _ _ _ y0
  have hm1 := hm.call hb1
  have s0 : w.heap.size < w1.heap.size := by omega
  have hcall := isFinished_any vP AE AD cE cD G D p w1 hm1 hv hp
  have Y0 := Lib.hid y0
  have hel := eOf_len hp
  have hmx := hv.many
  clear hm y0
  go_enter Try.func80, Try.ntmps80
  go_upto_region 1 with fail
  rw [← hw1]
  clear hw1
  go_wp2_with fail
  refine hcall.mono ?_
  rintro e w2 ⟨rfl, hb2⟩
  have y2 := (hb2.block _ s0).trans Y0.out
  have b1 : w2.cell? ⟨w.heap.size, 1, none⟩ = some (.slice AE G.length cE) := cell_of_row w2 _ 1 _ _ _ y2
  have hB2 := hb1.trans (hb2.mono hb1.size)
  obtain ⟨g, o, rfl, hgl, Ap, cp, hcA, -⟩ := (hm1.call hb2).g.at_ hp
  clear hcall b0 b2 y2 hm1 hb2
  cases hq : (dOf D p == 0)
  · have HS := Lib.hid (show stay (eOf G) (dOf D) p = ((G[p].length : Int) == 0) by
      rw [stay, hq, Bool.false_or, ← hel]
      cases eOf G p <;> simp
      omega)
    clear hel hq
    go_wp2
    go_ret
    exact ⟨ret_bool HS.out.symm, hB2⟩
  · have HS := Lib.hid (show stay (eOf G) (dOf D) p = true by rw [stay, hq]; rfl)
    clear hq
    go_wp2
    go_ret
    exact ⟨ret_bool HS.out.symm, hB2⟩
end Go.Proofs.Ytehoaenkkmmobaa
