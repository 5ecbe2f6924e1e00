/- The texts of calls, in plain words: what a call's text is, how the program and the document read one. No program's text. -/
import Derived.Test.YthcoelkpiflfeaaDoorRows
import Derived.Test.YthcoelkpiflfeaaDoorCalD
import Derived.Test.YthcoelkpiflfeaaDoorCalB
import Derived.Test.YthcoelkpiflfeaaDoorToldP
import Derived.Test.YthcoelkpiflfeaaDoorWitP
import Derived.Test.YthcoelkpiflfeaaDoorTreeCalls
import Derived.Lib.SplitLaws
import Derived.Lib.ParseIntBTie
namespace Go.Proofs.YthcoelkpiflfeaaDoor
open Go Go.RowKit
open Go.Lib (itoa atoiAll parseIntB splitK splitB splitB_data count count_hit count_miss index trimSuffix hasSuffix)
set_option linter.unusedVariables false
set_option linter.unusedSimpArgs false
namespace Cal
open Told (Fit fit_len)
open TreeCallsW (names callOf callOf_at callOf_none)
/- Items, one behind the other. -/
def tl2 : List (List UInt8) → List UInt8
  | [] => []
  | p :: l => 44 :: 32 :: (p ++ tl2 l)
def jn2 : List (List UInt8) → List UInt8
  | [] => []
  | p :: l => p ++ tl2 l
theorem tl2_app : ∀ (a b : List (List UInt8)), tl2 (a ++ b) = tl2 a ++ tl2 b
  | [], b => rfl
  | p :: a, b => by rw [List.cons_append, tl2, tl2, tl2_app a b]; simp
theorem tlC_tl2 : ∀ l : List Int, tlC l = tl2 (l.map itoa)
  | [] => rfl
  | z :: l => by rw [tlC, List.map_cons, tl2, tlC_tl2 l]
theorem jnC_jn2 (l : List Int) : jnC l = jn2 (l.map itoa) := by
  cases l with
  | nil => rfl
  | cons z l => rw [jnC, List.map_cons, jn2, tlC_tl2]
theorem count_tl2 : ∀ (l : List (List UInt8)) (t : List UInt8), (∀ b ∈ t, b ≠ 44) → (∀ p ∈ l, ∀ b ∈ p, b ≠ 44) → count (t ++ tl2 l) [44, 32] = l.length
  | [], t, h, _ => by rw [tl2, List.append_nil, count_miss (idx_none t h)]; rfl
  | z :: l, t, h, h2 => by
    rw [tl2, count_hit (by simp) (idx_hit t _ h)]
    rw [show ([44, 32] : List UInt8).length = 2 from rfl, drop_hit, count_tl2 l z (h2 z List.mem_cons_self) (fun p hp => h2 p (List.mem_cons_of_mem _ hp))]
    simp [Nat.add_comm]
theorem splitK_tl2 : ∀ (l : List (List UInt8)) (t : List UInt8), (∀ b ∈ t, b ≠ 44) → (∀ p ∈ l, ∀ b ∈ p, b ≠ 44) → splitK [44, 32] 0 l.length (t ++ tl2 l) = t :: l
  | [], t, h, _ => by simp [tl2, splitK]
  | z :: l, t, h, h2 => by
    rw [tl2, List.length_cons, splitK, idx_hit t _ h, if_neg (by simp)]
    have e : (((t.length : Nat) : Int)).toNat = t.length := by omega
    rw [e, show ([44, 32] : List UInt8).length = 2 from rfl, drop_hit, splitK_tl2 l z (h2 z List.mem_cons_self) (fun p hp => h2 p (List.mem_cons_of_mem _ hp))]
    simp
/-- A text's items, as strings.Split tells them at a comma and a blank. -/
def itemsP (x : List UInt8) : List (List UInt8) := splitK [44, 32] 0 (count x [44, 32]) x
theorem itemsP_jn2 (p : List UInt8) (l : List (List UInt8)) (h : ∀ q ∈ p :: l, ∀ b ∈ q, b ≠ 44) : itemsP (jn2 (p :: l)) = p :: l := by
  have h1 := h p List.mem_cons_self
  have h2 := fun q (hq : q ∈ l) => h q (List.mem_cons_of_mem _ hq)
  unfold itemsP
  rw [jn2, count_tl2 l p h1 h2, splitK_tl2 l p h1 h2]
theorem items_cells (x : ByteArray) : (splitB ⟨#[44, 32]⟩ 0 (Go.Lib.countB x ⟨#[44, 32]⟩) x).map Go.Value.string = (itemsP x.data.toList).map fun l => Go.Value.string (bytes l) := by
  have e := splitB_data (⟨#[44, 32]⟩ : ByteArray) 0 (Go.Lib.countB x ⟨#[44, 32]⟩) x
  have e2 : itemsP x.data.toList = (splitB ⟨#[44, 32]⟩ 0 (Go.Lib.countB x ⟨#[44, 32]⟩) x).map (·.data.toList) := e.symm
  rw [e2, List.map_map]
  congr 1
/- Words. -/
def wordL (k : Int) : List UInt8 := names.getD (k.toNat - 1) []
def redL (o : Int) : List UInt8 := if o = 0 then [115, 117, 109] else if o = 1 then [109, 97, 120] else [109, 105, 110]
def kindC (k : Int) : Prop := 1 ≤ k ∧ k ≤ 22
theorem used_kind {k : Int} (h : usedL k ≠ []) : kindC k := by
  unfold kindC
  refine Classical.byContradiction fun hn => h ?_
  unfold usedL
  rw [if_neg (by omega), if_neg (by omega), if_neg (by omega), if_neg (by omega), if_neg (by omega), if_neg (by omega), if_neg (by omega), if_neg (by omega)]
theorem kind_used {k : Int} (h : kindC k) : usedL k ≠ [] := by
  obtain ⟨h1, h2⟩ := h
  obtain ⟨n, rfl⟩ : ∃ n : Nat, k = n := ⟨k.toNat, by omega⟩
  have h : ∀ n : Fin 23, 1 ≤ n.1 → usedL (n.1 : Int) ≠ [] := by decide +kernel
  exact h ⟨n, by omega⟩ (by simp; omega)
theorem call_word {k : Int} (h : kindC k) : ((callOf (wordL k) : Nat) : Int) = k := by
  obtain ⟨h1, h2⟩ := h
  have := callOf_at (k.toNat - 1) (by omega) (wordL k) rfl
  omega
theorem word_no {k : Int} (h : kindC k) : ∀ b ∈ wordL k, b ≠ 40 := by
  obtain ⟨h1, h2⟩ := h
  have h : ∀ n : Fin 22, ∀ b ∈ names.getD n.1 [], b ≠ 40 := by decide +kernel
  exact h ⟨k.toNat - 1, by omega⟩
theorem word_len (k : Int) : (wordL k).length ≤ 10 := by
  unfold wordL
  by_cases h : k.toNat - 1 < 22
  · have h2 : ∀ n : Fin 22, (names.getD n.1 []).length ≤ 10 := by decide +kernel
    exact h2 ⟨k.toNat - 1, h⟩
  · rw [List.getD, List.getElem?_eq_none (by show 22 ≤ _; omega)]
    simp
/-- A call's text, between the brackets. -/
def numsOf (c : Cl) : List Int := ((usedL c.k).filter fun f => decide (f ≠ 6)).map (numF c)
def lastT (c : Cl) : List UInt8 := if hasF c.k 6 = true then 44 :: 32 :: redL c.op else []
def argT (c : Cl) : List UInt8 := if hasF c.k 7 = true then jnC c.rq else jnC (numsOf c) ++ lastT c
def hasText (c : Cl) : Prop := usedL c.k ≠ [] ∧ c = trimC c ∧ c.op ≤ 2 ∧ (hasF c.k 7 = true → manyR c)
def textOf (c : Cl) : List UInt8 := (wordL c.k ++ [40]) ++ argT c ++ [41]
/-- All numbers of a call are such as the language has. -/
structure Cl.ok (c : Cl) : Prop where
  k : 0 ≤ c.k ∧ c.k ≤ 255
  op : 0 ≤ c.op ∧ c.op ≤ 255
  co : Fit c.co
  pe : Fit c.pe
  tg : Fit c.tg
  va : Fit c.va
  sz : Fit c.sz
  ro : Fit c.ro
  cl : Fit c.cl
  ky : Fit c.ky
  rq : ∀ z ∈ c.rq, Fit z
/-- What a text is parsed as. -/
def ParsedAs (s : List UInt8) (r : Option Cl) : Prop :=
  (∃ c, r = some c ∧ c.ok ∧ hasText c ∧ textOf c = s) ∨ (r = none ∧ ∀ c : Cl, c.ok → hasText c → textOf c ≠ s)
/- The program's reading. -/
def cut1 (c : UInt8) : List UInt8 → List UInt8 × List UInt8 × Bool
  | [] => ([], [], false)
  | x :: r => if x = c then ([], r, true) else (x :: (cut1 c r).1, (cut1 c r).2.1, (cut1 c r).2.2)
theorem cut1_app {c : UInt8} : ∀ (a b : List UInt8), (∀ x ∈ a, x ≠ c) → cut1 c (a ++ c :: b) = (a, b, true)
  | [], b, _ => by
    show cut1 c (c :: b) = _
    unfold cut1
    rw [if_pos rfl]
  | x :: a, b, h => by
    rw [List.cons_append, cut1, if_neg (h x List.mem_cons_self), cut1_app a b (fun y hy => h y (List.mem_cons_of_mem _ hy))]
theorem cut1_len (c : UInt8) : ∀ l : List UInt8, (cut1 c l).1.length ≤ l.length ∧ (cut1 c l).2.1.length ≤ l.length
  | [] => ⟨Nat.le_refl _, Nat.le_refl _⟩
  | x :: r => by
    obtain ⟨h1, h2⟩ := cut1_len c r
    unfold cut1
    split
    · exact ⟨Nat.zero_le _, Nat.le_succ _⟩
    · exact ⟨Nat.succ_le_succ h1, Nat.le_succ_of_le h2⟩
theorem lib_cut1 (c : UInt8) : ∀ l : List UInt8, Lib.cut l [c] = cut1 c l ∧ (-1 ≤ Lib.index l [c]) := by
  intro l
  induction l with
  | nil => exact ⟨rfl, Int.le_refl _⟩
  | cons x r ih =>
    obtain ⟨i1, i2⟩ := ih
    unfold Lib.cut at i1 ⊢
    by_cases hx : x = c
    · subst hx
      have e : Lib.index (x :: r) [x] = 0 := by
        unfold Lib.index
        rw [if_pos (by simp)]
      rw [e]
      refine ⟨?_, by decide⟩
      unfold cut1
      simp
    · have hp : [c].isPrefixOf (x :: r) = false := by
        simp [List.isPrefixOf]
        exact fun h => hx h.symm
      have e : Lib.index (x :: r) [c] = if Lib.index r [c] == -1 then -1 else Lib.index r [c] + 1 := by
        rw [Lib.index, hp]
        rfl
      unfold cut1
      rw [if_neg hx, ← i1, e]
      by_cases hn : Lib.index r [c] = -1
      · rw [hn]
        refine ⟨?_, by decide⟩
        simp
      · have hb : (Lib.index r [c] == -1) = false := by rw [beq_eq_false_iff_ne]; exact hn
        have h0 : 0 ≤ Lib.index r [c] := by omega
        obtain ⟨k, hk⟩ : ∃ k : Nat, Lib.index r [c] = k := ⟨(Lib.index r [c]).toNat, by omega⟩
        rw [hb, hk]
        refine ⟨?_, by simp; omega⟩
        have h1 : 0 ≤ (k : Int) + 1 := by omega
        have h2 : ((k : Int) + 1).toNat = k + 1 := by omega
        simp [h1, h2]
def redOf (w : List UInt8) : Int := if w = [115, 117, 109] then 0 else if w = [109, 97, 120] then 1 else if w = [109, 105, 110] then 2 else 0
theorem redOf_red {o : Int} (h0 : 0 ≤ o) (h : o ≤ 2) : redOf (redL o) = o := by
  have : o = 0 ∨ o = 1 ∨ o = 2 := by omega
  rcases this with rfl | rfl | rfl <;> decide
def rdS (c : Cl) (f : Int) (it : List UInt8) : Option Cl := if f = 6 then some { c with op := redOf it } else match parseIntB 64 it with | .ok n => some (setFld c f n) | _ => none
def rdF (k : Int) (items : List (List UInt8)) : Nat → Option Cl
  | 0 => some { zeroC with k := k }
  | i + 1 => match rdF k items i with | none => none | some c => rdS c ((usedL k).getD i 0) (items.getD i [])
def rqF (items : List (List UInt8)) : Nat → Option (List Int)
  | 0 => some []
  | i + 1 => match rqF items i with | none => none | some l => match parseIntB 64 (items.getD i []) with | .ok n => some (l ++ [n]) | _ => none
def kP (s : List UInt8) : Int := (callOf (cut1 40 s).1 : Nat)
def itP (s : List UInt8) : List (List UInt8) := itemsP (trimSuffix (cut1 40 s).2.1 [41])
/-- What the program reads, ahead of comparing it with its own text. -/
def readP (s : List UInt8) : Option Cl :=
  if usedL (kP s) = [] then none
  else if usedL (kP s) = [7] then (rqF (itP s) (itP s).length).map fun l => { zeroC with k := kP s, rq := l }
  else if (itP s).length ≠ (usedL (kP s)).length then none else rdF (kP s) (itP s) (itP s).length
theorem pint_itoa {z : Int} (h : Fit z) : parseIntB 64 (itoa z) = .ok z := by
  rw [Go.Lib.parseIntB_64]
  exact Wit.atoi_itoa z h
theorem red_no44 (o : Int) : ∀ b ∈ redL o, b ≠ 44 := by
  unfold redL
  split
  · decide
  · split <;> decide
theorem hasSuf (x : List UInt8) : trimSuffix (x ++ [41]) [41] = x := by
  unfold trimSuffix
  have : hasSuffix (x ++ [41]) [41] = true := by simp [hasSuffix]
  rw [if_pos this]
  simp
theorem read_parts {c : Cl} (h : hasText c) : kP (textOf c) = c.k ∧ itP (textOf c) = itemsP (argT c) := by
  have hk := used_kind h.1
  have e : cut1 40 (textOf c) = (wordL c.k, argT c ++ [41], true) := by
    unfold textOf
    rw [show (wordL c.k ++ [40]) ++ argT c ++ [41] = wordL c.k ++ 40 :: (argT c ++ [41]) by simp]
    exact cut1_app _ _ (word_no hk)
  unfold kP itP
  rw [e]
  exact ⟨call_word hk, by rw [hasSuf]⟩
theorem rqF_itoa : ∀ (l : List Int), (∀ z ∈ l, Fit z) → ∀ i, i ≤ l.length → rqF (l.map itoa) i = some (l.take i)
  | l, h, 0, _ => rfl
  | l, h, i + 1, hi => by
    have hi2 : i < l.length := hi
    rw [rqF, rqF_itoa l h i (by omega)]
    have e : (l.map itoa).getD i [] = itoa (l[i]'hi2) := by simp [List.getD, hi2]
    simp only
    rw [e, pint_itoa (h _ (List.getElem_mem _)), List.take_succ_eq_append_getElem hi2]
/-- The shapes of kinds. -/
theorem shapes (k : Int) : (usedL k = [] ∧ usesS k = #[]) ∨ (usedL k = [0, 1, 2, 3, 4] ∧ usesS k = #[99, 112, 116, 118, 115]) ∨ (usedL k = [0, 1, 2] ∧ usesS k = #[99, 112, 116]) ∨ (usedL k = [7] ∧ usesS k = #[108]) ∨ (usedL k = [0] ∧ usesS k = #[99]) ∨ (usedL k = [0, 5, 3] ∧ usesS k = #[99, 114, 118]) ∨ (usedL k = [0, 5, 3, 6] ∧ usesS k = #[99, 114, 118, 111]) ∨ (usedL k = [0, 3, 6] ∧ usesS k = #[99, 118, 111]) ∨ (usedL k = [0, 8, 9] ∧ usesS k = #[99, 107]) := by
  by_cases h : kindC k
  · obtain ⟨h1, h2⟩ := h
    obtain ⟨n, rfl⟩ : ∃ n : Nat, k = n := ⟨k.toNat, by omega⟩
    have h : ∀ n : Fin 23, ((usedL (n.1 : Int) = [] ∧ usesS (n.1 : Int) = #[]) ∨ (usedL (n.1 : Int) = [0, 1, 2, 3, 4] ∧ usesS (n.1 : Int) = #[99, 112, 116, 118, 115]) ∨ (usedL (n.1 : Int) = [0, 1, 2] ∧ usesS (n.1 : Int) = #[99, 112, 116]) ∨ (usedL (n.1 : Int) = [7] ∧ usesS (n.1 : Int) = #[108]) ∨ (usedL (n.1 : Int) = [0] ∧ usesS (n.1 : Int) = #[99]) ∨ (usedL (n.1 : Int) = [0, 5, 3] ∧ usesS (n.1 : Int) = #[99, 114, 118]) ∨ (usedL (n.1 : Int) = [0, 5, 3, 6] ∧ usesS (n.1 : Int) = #[99, 114, 118, 111]) ∨ (usedL (n.1 : Int) = [0, 3, 6] ∧ usesS (n.1 : Int) = #[99, 118, 111]) ∨ (usedL (n.1 : Int) = [0, 8, 9] ∧ usesS (n.1 : Int) = #[99, 107])) := by decide +kernel
    exact h ⟨n, by omega⟩
  · left
    refine ⟨Classical.byContradiction fun hn => h (used_kind hn), ?_⟩
    unfold kindC at h
    unfold usesS
    repeat' rw [if_neg (by omega)]
/-- The items of a text. -/
def itemsC (c : Cl) : List (List UInt8) := if hasF c.k 7 = true then c.rq.map itoa else (numsOf c).map itoa ++ (if hasF c.k 6 = true then [redL c.op] else [])
theorem argT_items {c : Cl} (h : hasText c) : argT c = jn2 (itemsC c) ∧ (∀ q ∈ itemsC c, ∀ b ∈ q, b ≠ 44) ∧ itemsC c ≠ [] := by
  have h1 : ∀ (l : List Int), ∀ q ∈ l.map itoa, ∀ b ∈ q, b ≠ 44 := by
    intro l q hq b hb
    obtain ⟨z, _, rfl⟩ := List.mem_map.1 hq
    exact itoa_no44 z b hb
  unfold argT itemsC
  by_cases h7 : hasF c.k 7 = true
  · rw [if_pos h7, if_pos h7]
    refine ⟨jnC_jn2 _, h1 _, ?_⟩
    have := (h.2.2.2 h7).1
    intro e
    rw [List.map_eq_nil_iff] at e
    rw [e] at this
    simp at this
  · rw [if_neg h7, if_neg h7]
    have hne : numsOf c ≠ [] := by
      unfold numsOf
      rcases shapes c.k with ⟨e, _⟩ | ⟨e, _⟩ | ⟨e, _⟩ | ⟨e, _⟩ | ⟨e, _⟩ | ⟨e, _⟩ | ⟨e, _⟩ | ⟨e, _⟩ | ⟨e, _⟩
      · exact absurd e h.1
      · rw [e]; simp
      · rw [e]; simp
      · exact absurd (by unfold hasF; rw [e]; decide) h7
      all_goals (rw [e]; simp)
    refine ⟨?_, ?_, by simp [hne]⟩
    · unfold lastT
      cases hn : numsOf c with
      | nil => exact absurd hn hne
      | cons z l =>
        rw [jnC, tlC_tl2]
        by_cases h6 : hasF c.k 6 = true
        · rw [if_pos h6, if_pos h6, List.map_cons, List.cons_append, jn2, tl2_app, tl2, tl2]
          simp
        · rw [if_neg h6, if_neg h6, List.append_nil, List.append_nil, List.map_cons, jn2]
    · intro q hq
      rcases List.mem_append.1 hq with hq | hq
      · exact h1 _ q hq
      · split at hq
        · rw [List.mem_singleton.1 hq]; exact red_no44 _
        · cases hq
theorem itP_text {c : Cl} (h : hasText c) : itP (textOf c) = itemsC c := by
  obtain ⟨h1, h2, h3⟩ := argT_items h
  rw [(read_parts h).2, h1]
  cases e : itemsC c with
  | nil => exact absurd e h3
  | cons p l =>
    rw [e] at h2
    exact itemsP_jn2 p l h2
/-- The program reads a call's text as that call. -/
theorem readP_text {c : Cl} (ho : c.ok) (h : hasText c) : readP (textOf c) = some c := by
  have e1 := (read_parts h).1
  have e2 := itP_text h
  unfold readP
  rw [e1, e2, if_neg h.1]
  obtain ⟨k, co, pe, tg, va, sz, ro, op, rq, cl, ky⟩ := c
  have ht := h.2.1
  have ho2 := h.2.2.1
  have hop := ho.op.1
  have p1 := pint_itoa ho.co
  have p2 := pint_itoa ho.pe
  have p3 := pint_itoa ho.tg
  have p4 := pint_itoa ho.va
  have p5 := pint_itoa ho.sz
  have p6 := pint_itoa ho.ro
  have p7 := pint_itoa ho.cl
  have p8 := pint_itoa ho.ky
  have pr := redOf_red hop ho2
  have pq := rqF_itoa rq ho.rq rq.length (Nat.le_refl _)
  rw [List.take_length] at pq
  simp only at p1 p2 p3 p4 p5 p6 p7 p8 pr pq
  have h0 := h.1
  clear ho h e1 e2 hop ho2
  simp only at h0
  rcases shapes k with ⟨e, _⟩ | ⟨e, _⟩ | ⟨e, _⟩ | ⟨e, _⟩ | ⟨e, _⟩ | ⟨e, _⟩ | ⟨e, _⟩ | ⟨e, _⟩ | ⟨e, _⟩
  · exact absurd e h0
  all_goals
    simp [trimC, hasF, e] at ht
    simp [ht, itemsC, numsOf, hasF, e, rdF, rdS, setFld, zeroC, numF, p1, p2, p3, p4, p5, p6, p7, p8, pr, pq]
theorem ParsedAs.det {s : List UInt8} {r q : Option Cl} (h : ParsedAs s r) (h' : ParsedAs s q) : r = q := by
  rcases h with ⟨c, rfl, ho, ht, e⟩ | ⟨rfl, hn⟩ <;> rcases h' with ⟨c', rfl, ho', ht', e'⟩ | ⟨rfl, hn'⟩
  · rw [← readP_text ho ht, ← readP_text ho' ht', e, e']
  · exact absurd e (hn' c ho ht)
  · exact absurd e' (hn c' ho' ht')
  · rfl
theorem parsed_no {s : List UInt8} (h : readP s = none) : ParsedAs s none := .inr ⟨rfl, fun c ho ht e => by
  subst e
  rw [readP_text ho ht] at h
  cases h⟩
theorem parsed_yes {s : List UInt8} {c : Cl} (ho : c.ok) (h : hasText c) (e : textOf c = s) : ParsedAs s (some c) := .inl ⟨c, rfl, ho, h, e⟩
theorem parsed_other {s : List UInt8} {c : Cl} (h : readP s = some c) (hn : ¬ (hasText c ∧ textOf c = s)) : ParsedAs s none := .inr ⟨rfl, fun c' ho ht e => by
  subst e
  rw [readP_text ho ht] at h
  injection h with h
  subst h
  exact hn ⟨ht, rfl⟩⟩
end Cal
end Go.Proofs.YthcoelkpiflfeaaDoor
