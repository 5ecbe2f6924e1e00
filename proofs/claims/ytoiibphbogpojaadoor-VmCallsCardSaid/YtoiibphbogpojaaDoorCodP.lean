/- Instructions, whether a program's numbers may be, heights: in plain words. No program's text. -/
import Derived.Test.YtoiibphbogpojaaDoorRows
import Derived.Test.YtoiibphbogpojaaDoorBase
namespace Go.Proofs.YtoiibphbogpojaaDoor
open Go Go.RowKit
set_option linter.unusedVariables false
set_option linter.unusedSimpArgs false
namespace Cod
structure In where
  op : Int
  n : Int
deriving DecidableEq
instance : Inhabited In := ⟨⟨0, 0⟩⟩
/-- An operation: its name, what its number is, how many it takes, and gives. -/
structure Op4 where
  nm : ByteArray
  k : Int
  t : Int
  a : Int
instance : Inhabited Op4 := ⟨⟨⟨#[]⟩, 0, 0, 0⟩⟩
def opsT : List Op4 :=
  [⟨⟨#[]⟩, 0, 0, 0⟩,
   ⟨⟨#[110, 117, 109]⟩, 1, 0, 1⟩,
   ⟨⟨#[103, 101, 116]⟩, 2, 0, 1⟩,
   ⟨⟨#[115, 101, 116]⟩, 2, 1, 0⟩,
   ⟨⟨#[97, 116]⟩, 3, 1, 1⟩,
   ⟨⟨#[112, 117, 116]⟩, 3, 2, 0⟩,
   ⟨⟨#[114, 111, 119]⟩, 0, 1, 1⟩,
   ⟨⟨#[119, 111, 114, 100]⟩, 4, 0, 1⟩,
   ⟨⟨#[110, 101, 103]⟩, 0, 1, 1⟩,
   ⟨⟨#[110, 111, 116]⟩, 0, 1, 1⟩,
   ⟨⟨#[109, 117, 108]⟩, 0, 2, 1⟩,
   ⟨⟨#[100, 105, 118]⟩, 0, 2, 1⟩,
   ⟨⟨#[109, 111, 100]⟩, 0, 2, 1⟩,
   ⟨⟨#[97, 100, 100]⟩, 0, 2, 1⟩,
   ⟨⟨#[115, 117, 98]⟩, 0, 2, 1⟩,
   ⟨⟨#[108, 101, 115, 115]⟩, 0, 2, 1⟩,
   ⟨⟨#[108, 101, 115, 115, 101, 113]⟩, 0, 2, 1⟩,
   ⟨⟨#[109, 111, 114, 101]⟩, 0, 2, 1⟩,
   ⟨⟨#[109, 111, 114, 101, 101, 113]⟩, 0, 2, 1⟩,
   ⟨⟨#[115, 97, 109, 101]⟩, 0, 2, 1⟩,
   ⟨⟨#[111, 116, 104, 101, 114]⟩, 0, 2, 1⟩,
   ⟨⟨#[116, 114, 117, 116, 104]⟩, 0, 1, 1⟩,
   ⟨⟨#[106, 117, 109, 112]⟩, 5, 0, 0⟩,
   ⟨⟨#[122, 101, 114, 111]⟩, 5, 1, 0⟩,
   ⟨⟨#[101, 108, 115, 101]⟩, 5, 1, 0⟩,
   ⟨⟨#[112, 111, 112]⟩, 0, 1, 0⟩,
   ⟨⟨#[100, 117, 112]⟩, 0, 1, 2⟩,
   ⟨⟨#[97, 115, 115, 101, 114, 116]⟩, 0, 1, 0⟩,
   ⟨⟨#[99, 97, 108, 108]⟩, 6, 0, 0⟩,
   ⟨⟨#[115, 116, 111, 112]⟩, 0, 0, 0⟩]
def opO (op : Int) : Op4 := opsT.getD op.toNat default
def numK (op : Int) : Int := (opO op).k
def tkO (op : Int) : Int := (opO op).t
def adO (op : Int) : Int := (opO op).a
def tkI (x : In) : Int := if x.op = 28 then x.n % 1024 / 32 else tkO x.op
/-- How many a call of a kind has, at least and at most. -/
def argsK (k : Int) : Int × Int :=
  if k = 1 ∨ k = 2 ∨ k = 3 ∨ k = 4 ∨ k = 5 then (5, 5)
  else if k = 6 ∨ k = 7 ∨ k = 13 ∨ k = 14 ∨ k = 16 ∨ k = 17 ∨ k = 19 ∨ k = 21 then (3, 3)
  else if k = 18 then (2, 2)
  else if k = 8 ∨ k = 11 ∨ k = 15 ∨ k = 20 ∨ k = 22 then (1, 1)
  else if k = 9 ∨ k = 10 ∨ k = 12 then (1, 8)
  else (0, 0)
def mayCl (n : Int) : Bool :=
  decide (0 ≤ n) && (!decide ((argsK (n % 32)).2 = 0) && decide ((argsK (n % 32)).1 ≤ n % 1024 / 32) && decide (n % 1024 / 32 ≤ (argsK (n % 32)).2)) &&
    (decide (n / 1024 = 0) || (decide (n % 32 = 17) || decide (n % 32 = 18)) && decide (0 < n / 1024) && decide (n / 1024 ≤ 2))
/-- May an instruction's number be? -/
def mayN (len vars arrs : Int) (x : In) : Bool :=
  decide (1 ≤ x.op) && decide (x.op ≤ 29) &&
    (if numK x.op = 1 then true else if numK x.op = 2 then decide (0 ≤ x.n ∧ x.n < vars) else if numK x.op = 3 then decide (0 ≤ x.n ∧ x.n < arrs) else if numK x.op = 4 then decide (0 ≤ x.n ∧ x.n < 10)
     else if numK x.op = 5 then decide (0 ≤ x.n ∧ x.n < len) else if numK x.op = 6 then mayCl x.n else decide (x.n = 0))
def arrOk : List Int → Int → Bool
  | [], _ => true
  | n :: l, c => decide (1 ≤ n) && decide (n ≤ 1000 - c) && arrOk l (c + n)
def mayNs (cs : List In) (vars : Int) (arrs : List Int) : Bool :=
  decide (0 < cs.length) && decide (cs.length ≤ 4000) && decide ((cs.getD (cs.length - 1) default).op = 29) && decide (0 ≤ vars) && decide (vars ≤ 64) && arrOk arrs 0 && cs.all (mayN cs.length vars arrs.length)
/-- Where it may go on behind an instruction. -/
def waysI (x : In) (a : Nat) : List Nat :=
  if x.op = 29 then [] else if x.op = 22 then [x.n.toNat] else if x.op = 23 ∨ x.op = 24 then [x.n.toNat, a + 1] else [a + 1]
/-- The height behind an instruction, if it may be gone over. -/
def stepI (x : In) (h : Int) : Option Int := if tkI x ≤ h ∧ h - tkI x + adO x.op ≤ 200 then some (h - tkI x + adO x.op) else none
/-- What comes of one place's ways on: heights that are laid, places that are still to be gone on from. -/
def wayF (b : Int) : List Nat → List Int → List Nat → Option (List Int × List Nat)
  | [], h, t => some (h, t)
  | k :: l, h, t => if h.getD k 0 = -1 then wayF b l (h.set k b) (t ++ [k]) else if h.getD k 0 = b then wayF b l h t else none
/-- One place gone on from. -/
def goF (cs : List In) (h : List Int) (t : List Nat) (a : Nat) : Option (List Int × List Nat) := (stepI (cs.getD a default) (h.getD a 0)).bind fun b => wayF b (waysI (cs.getD a default) a) h t
inductive Goes (cs : List In) : List Int → List Nat → Option (List Int) → Prop
  | stop (h : List Int) : Goes cs h [] (some h)
  | bad (h : List Int) (t : List Nat) (a : Nat) : goF cs h t a = none → Goes cs h (t ++ [a]) none
  | go (h : List Int) (t : List Nat) (a : Nat) (h' : List Int) (t' : List Nat) (r : Option (List Int)) : goF cs h t a = some (h', t') → Goes cs h' t' r → Goes cs h (t ++ [a]) r
theorem app_one {t u : List Nat} {a b : Nat} (h : t ++ [a] = u ++ [b]) : t = u ∧ a = b := by
  have := List.append_inj' h rfl
  exact ⟨this.1, by simpa using this.2⟩
theorem Goes.det {cs : List In} {h : List Int} {t : List Nat} {r : Option (List Int)} (H : Goes cs h t r) : ∀ {q}, Goes cs h t q → r = q := by
  induction H with
  | stop h =>
    intro q K
    generalize ht : ([] : List Nat) = t at K
    cases K with
    | stop _ => rfl
    | bad _ t a _ => simp at ht
    | go _ t a _ _ _ _ _ => simp at ht
  | bad h t a hb =>
    intro q K
    generalize ht : t ++ [a] = u at K
    cases K with
    | stop _ => simp at ht
    | bad _ t2 a2 hb2 => rfl
    | go _ t2 a2 h' t' _ hg K =>
      obtain ⟨rfl, rfl⟩ := app_one ht
      rw [hb] at hg; cases hg
  | go h t a h' t' r hg K ih =>
    intro q K2
    generalize ht : t ++ [a] = u at K2
    cases K2 with
    | stop _ => simp at ht
    | bad _ t2 a2 hb2 =>
      obtain ⟨rfl, rfl⟩ := app_one ht
      rw [hg] at hb2; cases hb2
    | go _ t2 a2 h2 t2' _ hg2 K3 =>
      obtain ⟨rfl, rfl⟩ := app_one ht
      rw [hg] at hg2
      injection hg2 with hg2
      injection hg2 with e1 e2
      subst e1 e2
      exact ih K3
/-- The heights ahead of the first round. -/
def h0 (n : Nat) : List Int := (List.replicate n (-1)).set 0 0
/-- What Heights tells: the heights, if the program may be. -/
def HtR (cs : List In) (vars : Int) (arrs : List Int) (r : Option (List Int)) : Prop := (mayNs cs vars arrs = false ∧ r = none) ∨ (mayNs cs vars arrs = true ∧ Goes cs (h0 cs.length) [0] r)
theorem HtR.det {cs : List In} {vars : Int} {arrs : List Int} {r q : Option (List Int)} (h : HtR cs vars arrs r) (k : HtR cs vars arrs q) : r = q := by
  rcases h with ⟨h1, rfl⟩ | ⟨h1, h2⟩ <;> rcases k with ⟨k1, rfl⟩ | ⟨k1, k2⟩
  · rfl
  · rw [h1] at k1; cases k1
  · rw [h1] at k1; cases k1
  · exact h2.det k2
end Cod
end Go.Proofs.YtoiibphbogpojaaDoor
