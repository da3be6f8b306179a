/-
  LAYER 6: what holds at the head of search's loop. (The contract: under way, gen/srv_begin.txt.)
-/
import Derived.Test.YtehoaenkkmmobaaSrU
import Derived.Test.YtehoaenkkmmobaaSrR
namespace Go.Proofs.Ytehoaenkkmmobaa
open Go.RowKit Go.Shelf
/-- what holds at the head of the loop -/
structure SrS (G : List (List Ed)) (D : List Int) (AP AE AD : Option Addr) (nP cP cE cD tu mo most : Nat) (w : World) (P B : Nat) (wr : World) (s : PSt) (vL vB vT : Value) (n : Nat) : Prop where
  inv : PInv (eOf G) G.length tu mo s
  tl : s.trail.length ≤ most
  run : runS (eOf G) G.length tu mo (dOf D) most iniP = runS (eOf G) G.length tu mo (dOf D) (most - s.trail.length) s
  pl : PlAt wr P (plC (.slice AP nP cP) AE AD G.length cE D.length cD mo tu s.at_ vL B vB s.lost vT)
  lst : LRow wr w.heap.size vL s.mem
  set_ : LnkR wr B n s.mem
  nl : n ≤ s.trail.length
  bk : BackR wr w.heap.size vB s.back
  tr : TrR wr w.heap.size vT s.trail
  ap : vB.ownBlock = none ∨ vB.ownBlock ≠ vT.ownBlock ∨ s.back = []
  low : Below w.heap.size w wr
end Go.Proofs.Ytehoaenkkmmobaa
