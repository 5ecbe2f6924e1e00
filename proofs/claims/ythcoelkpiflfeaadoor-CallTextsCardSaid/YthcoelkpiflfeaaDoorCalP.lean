/- Calls, what they use, which may be. No program's text. -/
import Derived.Test.YthcoelkpiflfeaaDoorRows
import Derived.Test.YthcoelkpiflfeaaDoorGrpP
namespace Go.Proofs.YthcoelkpiflfeaaDoor
open Go Go.RowKit Go.Proofs.YthcoelkpiflfeaaDoor.Grp
set_option linter.unusedVariables false
set_option linter.unusedSimpArgs false
namespace Cal
structure Cl where
  k : Int
  co : Int
  pe : Int
  tg : Int
  va : Int
  sz : Int
  ro : Int
  op : Int
  rq : List Int
  cl : Int
  ky : Int
deriving DecidableEq
/-- The fields that a kind uses, in the order of a statement. -/
def usedL (k : Int) : List Int :=
  if k = 1 ∨ k = 2 ∨ k = 3 ∨ k = 4 ∨ k = 5 then [0, 1, 2, 3, 4]
  else if k = 6 ∨ k = 7 ∨ k = 13 ∨ k = 14 then [0, 1, 2]
  else if k = 8 ∨ k = 9 ∨ k = 10 ∨ k = 11 ∨ k = 12 then [7]
  else if k = 15 ∨ k = 20 ∨ k = 22 then [0]
  else if k = 16 ∨ k = 19 then [0, 5, 3]
  else if k = 17 then [0, 5, 3, 6]
  else if k = 18 then [0, 3, 6]
  else if k = 21 then [0, 8, 9]
  else []
def hasF (k f : Int) : Bool := decide (f ∈ usedL k)
/-- A call, trim. -/
def trimC (c : Cl) : Cl :=
  { k := if usedL c.k = [] then 0 else c.k, co := if hasF c.k 0 then c.co else 0, pe := if hasF c.k 1 then c.pe else 0, tg := if hasF c.k 2 then c.tg else 0, va := if hasF c.k 3 then c.va else 0, sz := if hasF c.k 4 then c.sz else 0,
    ro := if hasF c.k 5 then c.ro else 0, op := if hasF c.k 6 then c.op else 0, rq := if hasF c.k 7 then c.rq else [], cl := if hasF c.k 8 then c.cl else 0, ky := if hasF c.k 8 then c.ky else 0 }
def decC (c : Cl) : Bool := decide (c.k = 10 ∨ c.k = 11 ∨ c.k = 12 ∨ c.k = 14) || (decide (c.k = 6 ∨ c.k = 7 ∨ c.k = 13) && decide (c.pe = -1))
def wildK (k : Int) : Prop := k = 6 ∨ k = 7 ∨ k = 13 ∨ k = 14
/-- How many requests a kind may have. -/
def manyR (c : Cl) : Prop := 1 ≤ c.rq.length ∧ (c.rq.length : Int) ≤ (if c.k = 8 ∨ c.k = 11 then 1 else 8)
def mayR (c : Cl) : Prop := manyR c ∧ (∀ r ∈ c.rq, 0 ≤ r ∧ r < 256) ∧ c.rq.Nodup
/-- May a field of a call be, on a group of n ranks? -/
def mayF (c : Cl) (n : Nat) (f : Int) : Prop :=
  if f = 0 then 0 ≤ c.co ∧ c.co < 32
  else if f = 1 then (0 ≤ c.pe ∧ c.pe < n) ∨ (wildK c.k ∧ c.pe = -1)
  else if f = 2 then (0 ≤ c.tg ∧ c.tg ≤ 32767) ∨ (wildK c.k ∧ c.tg = -1)
  else if f = 4 then 1 ≤ c.sz ∧ c.sz ≤ 64
  else if f = 5 then 0 ≤ c.ro ∧ c.ro < n
  else if f = 6 then c.op ≤ 2
  else if f = 7 then mayR c
  else True
def mayC (c : Cl) (l : List Int) : Prop := mayL l ∧ usedL c.k ≠ [] ∧ ∀ f ∈ usedL c.k, mayF c l.length f
open Classical in
noncomputable def mayCb (c : Cl) (l : List Int) : Bool := decide (mayC c l)
end Cal
end Go.Proofs.YthcoelkpiflfeaaDoor
