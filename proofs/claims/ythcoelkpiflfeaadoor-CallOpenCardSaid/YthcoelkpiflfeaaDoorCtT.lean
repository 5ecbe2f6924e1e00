/- Calls that agree in what their kind uses. No program's text. -/
import Derived.Test.YthcoelkpiflfeaaDoorRows
import Derived.Test.YthcoelkpiflfeaaDoorCtP
namespace Go.Proofs.YthcoelkpiflfeaaDoor
open Go Go.RowKit Go.Proofs.YthcoelkpiflfeaaDoor.Grp
set_option linter.unusedVariables false
set_option linter.unusedSimpArgs false
namespace Cal
structure Agr (a b : Cl) : Prop where
  k : a.k = b.k
  co : hasF a.k 0 = true → a.co = b.co
  pe : hasF a.k 1 = true → a.pe = b.pe
  tg : hasF a.k 2 = true → a.tg = b.tg
  va : hasF a.k 3 = true → a.va = b.va
  sz : hasF a.k 4 = true → a.sz = b.sz
  ro : hasF a.k 5 = true → a.ro = b.ro
  op : hasF a.k 6 = true → a.op = b.op
  rq : hasF a.k 7 = true → a.rq = b.rq
  cl : hasF a.k 8 = true → a.cl = b.cl
  ky : hasF a.k 8 = true → a.ky = b.ky
theorem if_agr {α : Type} {p q : Bool} {x y z : α} (h : p = q) (e : p = true → x = y) : (if p = true then x else z) = (if q = true then y else z) := by
  subst h
  cases p with
  | true => simpa using e rfl
  | false => rfl
theorem Agr.trim {a b : Cl} (h : Agr a b) : trimC a = trimC b := by
  have hf : ∀ f, hasF a.k f = hasF b.k f := fun f => by rw [h.k]
  unfold trimC
  rw [if_agr (z := (0 : Int)) (hf 0) h.co, if_agr (z := (0 : Int)) (hf 1) h.pe, if_agr (z := (0 : Int)) (hf 2) h.tg, if_agr (z := (0 : Int)) (hf 3) h.va, if_agr (z := (0 : Int)) (hf 4) h.sz, if_agr (z := (0 : Int)) (hf 5) h.ro, if_agr (z := (0 : Int)) (hf 6) h.op, if_agr (z := ([] : List Int)) (hf 7) h.rq, if_agr (z := (0 : Int)) (hf 8) h.cl, if_agr (z := (0 : Int)) (hf 8) h.ky, h.k]
theorem Agr.dec {a b : Cl} (h : Agr a b) : decC a = decC b := by
  unfold decC
  by_cases hp : b.k = 6 ∨ b.k = 7 ∨ b.k = 13
  · have h1 : hasF a.k 1 = true := by
      rw [h.k]
      rcases hp with e | e | e <;> rw [e] <;> decide
    rw [h.k, h.pe h1]
  · rw [h.k]
    simp [hp]
theorem Agr.mayF {a b : Cl} (h : Agr a b) (n : Nat) (f : Int) (hm : f ∈ usedL a.k) : Cal.mayF a n f ↔ Cal.mayF b n f := by
  have hf : hasF a.k f = true := decide_eq_true hm
  unfold Cal.mayF
  by_cases h0 : f = 0
  · subst h0; rw [if_pos rfl, if_pos rfl, h.co hf]
  rw [if_neg h0, if_neg h0]
  by_cases h1 : f = 1
  · subst h1; rw [if_pos rfl, if_pos rfl, h.pe hf, h.k]
  rw [if_neg h1, if_neg h1]
  by_cases h2 : f = 2
  · subst h2; rw [if_pos rfl, if_pos rfl, h.tg hf, h.k]
  rw [if_neg h2, if_neg h2]
  by_cases h4 : f = 4
  · subst h4; rw [if_pos rfl, if_pos rfl, h.sz hf]
  rw [if_neg h4, if_neg h4]
  by_cases h5 : f = 5
  · subst h5; rw [if_pos rfl, if_pos rfl, h.ro hf]
  rw [if_neg h5, if_neg h5]
  by_cases h6 : f = 6
  · subst h6; rw [if_pos rfl, if_pos rfl, h.op hf]
  rw [if_neg h6, if_neg h6]
  by_cases h7 : f = 7
  · subst h7; rw [if_pos rfl, if_pos rfl]; unfold mayR manyR; rw [h.rq hf, h.k]
  rw [if_neg h7, if_neg h7]
theorem Agr.may {a b : Cl} (h : Agr a b) (l : List Int) : mayC a l ↔ mayC b l := by
  unfold mayC
  rw [← h.k]
  exact ⟨fun ⟨h1, h2, h3⟩ => ⟨h1, h2, fun f hf => (h.mayF l.length f hf).1 (h3 f hf)⟩, fun ⟨h1, h2, h3⟩ => ⟨h1, h2, fun f hf => (h.mayF l.length f hf).2 (h3 f hf)⟩⟩
theorem Agr.self {c : Cl} (h : usedL c.k ≠ []) : Agr (trimC c) c := by
  have hk : (trimC c).k = c.k := if_neg h
  refine ⟨hk, ?_, ?_, ?_, ?_, ?_, ?_, ?_, ?_, ?_, ?_⟩
  all_goals
    intro hf
    rw [hk] at hf
    exact if_pos hf
theorem none_may {c : Cl} (h : usedL c.k = []) (l : List Int) : ¬ mayC c l ∧ ¬ mayC (trimC c) l := by
  refine ⟨fun hm => hm.2.1 h, fun hm => hm.2.1 ?_⟩
  have : (trimC c).k = 0 := if_pos h
  rw [this]
  decide
theorem none_dec {c : Cl} (h : usedL c.k = []) : decC c = false := by
  unfold decC
  have hk : ¬ kindC c.k := fun hk => kind_used hk h
  unfold kindC at hk
  have e1 : decide (c.k = 10 ∨ c.k = 11 ∨ c.k = 12 ∨ c.k = 14) = false := decide_eq_false (by omega)
  have e2 : decide (c.k = 6 ∨ c.k = 7 ∨ c.k = 13) = false := decide_eq_false (by omega)
  rw [e1, e2]
  rfl
/-- The call in which each field that a kind uses is 1. -/
def oneC (k : Int) : Cl := ⟨k, 1, 1, 1, 1, 1, 1, 1, [1], 1, 1⟩
end Cal
end Go.Proofs.YthcoelkpiflfeaaDoor
