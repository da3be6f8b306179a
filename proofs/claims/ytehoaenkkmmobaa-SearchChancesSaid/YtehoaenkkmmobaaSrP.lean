/-
  PURE FACTS for layer 6: how a player searches, as the program reckons it. Nothing of the program.
-/
import Derived.Test.YtehoaenkkmmobaaGbA
namespace Go.Proofs.Ytehoaenkkmmobaa
/-- an edge with the position it belongs to -/
abbrev Lk := Nat × Nat
section
variable (E : Nat → List Nat)
def tgt (p e : Nat) : Nat := (E p)[e]?.getD 0
/-- the edges of a position, tried in order -/
def ord (turn p : Nat) : List Nat := (List.range (E p).length).map fun i => (turn + i) % (E p).length
/-- the first that is not remembered -/
def untr (turn : Nat) (mem : List Lk) (p : Nat) : Option Nat := (ord E turn p).find? fun e => !(mem.contains (p, e))
/-- one edge more is looked at, from a position on -/
def sprE (p : Nat) (s : (Nat → Option Lk) × List Nat) (e : Nat) : (Nat → Option Lk) × List Nat :=
  match s.1 (tgt E p e) with
  | some _ => s
  | none => (fun x => if x = tgt E p e then some (p, e) else s.1 x, s.2 ++ [tgt E p e])
def sprP (p k : Nat) (s : (Nat → Option Lk) × List Nat) : (Nat → Option Lk) × List Nat := (List.range k).foldl (sprE E p) s
def sprA (lv : List Nat) (s : (Nat → Option Lk) × List Nat) : (Nat → Option Lk) × List Nat := lv.foldl (fun s p => sprP E p (E p).length s) s
/-- the ways to the nearest positions with an edge that is not remembered, and the lowest one of these -/
def wbk (turn : Nat) (mem : List Lk) : Nat → (Nat → Option Lk) → List Nat → Option ((Nat → Option Lk) × Nat)
  | 0, _, _ => none
  | f + 1, w, lv =>
    if lv.isEmpty then none else
      let s := sprA E lv (w, [])
      match (s.2.filter fun x => (untr E turn mem x).isSome).min? with
      | some e => some (s.1, e)
      | none => wbk turn mem f s.1 s.2
end
/-- the edges of the way to a position -/
def edg (w : Nat → Option Lk) (start : Nat) : Nat → Nat → List Nat
  | 0, _ => []
  | f + 1, x => if start = x then [] else edg w start f ((w x).getD (0, 0)).1 ++ [((w x).getD (0, 0)).2]
def waysP (start : Nat) : Nat → Option Lk := fun x => if x = start then some (0, 0) else none
section
variable (E : Nat → List Nat) (n turn most : Nat)
def wayB (mem : List Lk) (at_ : Nat) : List Nat :=
  match wbk E turn mem (n + 1) (waysP at_) [at_] with
  | some (w, e) => edg w at_ (n + 1) e
  | none => []
/-- what is remembered behind an edge -/
def addM (mem : List Lk) (l : Lk) : List Lk :=
  let m := mem.filter (fun x => !(x == l)) ++ [l]
  if most < m.length then m.tail else m
def firM (mem : List Lk) (p : Nat) : Nat := ((mem.find? fun l => l.1 == p).getD (0, 0)).2
structure PSt where
  at_ : Nat
  mem : List Lk
  back : List Nat
  lost : Bool
  trail : List Nat
/-- the edge that is to be gone, and what is left of the way back -/
def nxtP (s : PSt) : Nat × List Nat × Bool :=
  match untr E turn s.mem s.at_ with
  | some e => (e, s.back, s.lost)
  | none =>
    let b := if s.back.isEmpty && !s.lost then wayB E n turn s.mem s.at_ else s.back
    let l := if s.back.isEmpty && !s.lost then b.isEmpty else s.lost
    if l then (firM s.mem s.at_, b, l) else (b.headD 0, b.tail, l)
def stpP (s : PSt) : PSt :=
  let r := nxtP E n turn s
  { at_ := tgt E s.at_ r.1, mem := addM most s.mem (s.at_, r.1), back := r.2.1, lost := r.2.2, trail := s.trail ++ [r.1] }
def iniP : PSt := { at_ := 0, mem := [], back := [], lost := false, trail := [] }
/-- a position that is never left -/
def stay (d : Nat → Int) (p : Nat) : Bool := (d p == 0) || (E p).isEmpty
def runS (d : Nat → Int) : Nat → PSt → PSt
  | 0, s => s
  | f + 1, s => if stay E d s.at_ then s else runS d f (stpP E n turn most s)
end
/-- the example -/
def exE : Nat → List Nat := fun p => [[1, 2], [0, 3], [0], [4, 1], []].getD p []
def exD : Nat → Int := fun p => [3, 2, 4, 1, 0].getD p 0
theorem ex_trail : (runS exE 5 0 10 exD 100 iniP).trail = [0, 0, 1, 0, 0, 1, 0] ∧ (runS exE 5 0 10 exD 100 iniP).at_ = 4 := by decide +kernel
theorem ex_trail1 : (runS exE 5 1 10 exD 100 iniP).trail = [1, 0, 0, 1, 1, 0, 0, 1, 0] ∧ (runS exE 5 1 10 exD 100 iniP).at_ = 4 := by decide +kernel
end Go.Proofs.Ytehoaenkkmmobaa
