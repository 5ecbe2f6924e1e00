/- How the document reads a text as a call, in plain words. No program's text. -/
import Derived.Test.YthcoelkpiflfeaaDoorRows
import Derived.Test.YthcoelkpiflfeaaDoorCtP
namespace Go.Proofs.YthcoelkpiflfeaaDoor
open Go Go.RowKit
open Go.Lib (itoa)
set_option linter.unusedVariables false
set_option linter.unusedSimpArgs false
namespace Cal
open Told (Fit fit_len)
open TreeCallsW (names callOf callOf_at callOf_none)
open Wit (rdB rdB_itoa rdB_sound)
/-- Parts of a text, split at each comma with a blank behind it. -/
def spl2 : Bool → List UInt8 → List UInt8 → List (List UInt8)
  | _, cur, [] => [cur]
  | b, cur, x :: r => if b = true then spl2 false [] r else if x = 44 ∧ r.head? = some 32 then cur :: spl2 true [] r else spl2 false (cur ++ [x]) r
theorem spl2_word : ∀ (p cur r : List UInt8), (∀ b ∈ p, b ≠ 44) → spl2 false cur (p ++ r) = spl2 false (cur ++ p) r
  | [], cur, r, _ => by simp
  | x :: p, cur, r, h => by
    rw [List.cons_append, spl2, if_neg (by decide), if_neg (fun e => h x List.mem_cons_self e.1), spl2_word p _ r (fun b hb => h b (List.mem_cons_of_mem _ hb))]
    simp
theorem spl2_tl2 : ∀ (l : List (List UInt8)) (cur : List UInt8), (∀ p ∈ l, ∀ b ∈ p, b ≠ 44) → spl2 false cur (tl2 l) = cur :: l
  | [], cur, _ => rfl
  | p :: l, cur, h => by
    rw [tl2, spl2, if_neg (by decide), if_pos ⟨rfl, rfl⟩, spl2, if_pos rfl, spl2_word p [] _ (h p List.mem_cons_self), List.nil_append, spl2_tl2 l p (fun q hq => h q (List.mem_cons_of_mem _ hq))]
theorem spl2_jn2 (p : List UInt8) (l : List (List UInt8)) (h : ∀ q ∈ p :: l, ∀ b ∈ q, b ≠ 44) : spl2 false [] (jn2 (p :: l)) = p :: l := by
  rw [jn2, spl2_word p [] _ (h p List.mem_cons_self), List.nil_append, spl2_tl2 l p (fun q hq => h q (List.mem_cons_of_mem _ hq))]
theorem spl2_pos : ∀ (x : List UInt8) (b : Bool) (cur : List UInt8), spl2 b cur x ≠ []
  | [], b, cur => by rw [spl2]; simp
  | x :: r, b, cur => by
    rw [spl2]
    split
    · exact spl2_pos r _ _
    · split
      · simp
      · exact spl2_pos r _ _
theorem spl2_len : ∀ (x : List UInt8) (b : Bool) (cur : List UInt8), (spl2 b cur x).length ≤ x.length + 1
  | [], b, cur => by simp [spl2]
  | x :: r, b, cur => by
    have h1 := spl2_len r true []
    have h2 := spl2_len r false []
    have h3 := spl2_len r false (cur ++ [x])
    rw [spl2]
    split
    · rw [List.length_cons]; omega
    · split
      · rw [List.length_cons, List.length_cons]; omega
      · rw [List.length_cons]; omega
theorem spl2_mem : ∀ (x : List UInt8) (b : Bool) (cur : List UInt8), ∀ p ∈ spl2 b cur x, p.length ≤ cur.length + x.length
  | [], b, cur, p, h => by
    rw [spl2] at h
    rw [List.mem_singleton.1 h]
    simp
  | x :: r, b, cur, p, h => by
    rw [spl2] at h
    rw [List.length_cons]
    split at h
    · have := spl2_mem r _ _ p h
      simp at this
      omega
    · split at h
      · rcases List.mem_cons.1 h with rfl | h
        · omega
        · have := spl2_mem r _ _ p h
          simp at this
          omega
      · have := spl2_mem r _ _ p h
        rw [List.length_append, List.length_singleton] at this
        omega
/-- The scan of a text for its parts, half done: at place i of it, of E bytes. -/
structure PtI (m : List UInt8) (a E i : Nat) (fr : Nat) (out : List (List UInt8)) (b : Bool) : Prop where
  all : out ++ spl2 b (if b = true then [] else (m.take i).drop fr) ((m.take E).drop i) = spl2 false [] ((m.take E).drop a)
  le : a ≤ i ∧ i ≤ E ∧ E ≤ m.length
  on : b = true → fr = i + 1 ∧ i < E ∧ m[i]? = some 32
  off : b = false → fr ≤ i
theorem PtI.start {m : List UInt8} {a E : Nat} (h : a ≤ E) (hE : E ≤ m.length) : PtI m a E a a [] false :=
  ⟨by simp, ⟨Nat.le_refl _, h, hE⟩, fun h => (by cases h), fun _ => Nat.le_refl _⟩
theorem take_drop_cons {m : List UInt8} {i E : Nat} (h : i < E) (hE : E ≤ m.length) : (m.take E).drop i = (m[i]'(by omega)) :: (m.take E).drop (i + 1) := by
  rw [List.drop_eq_getElem_cons (by rw [List.length_take]; omega), List.getElem_take]
theorem PtI.cut {m : List UInt8} {a E i fr : Nat} {out : List (List UInt8)} {b : Bool} (s : PtI m a E i fr out b) (hi : i < E) (h1 : m[i]? = some 44) (h2 : m[i + 1]? = some 32) (h3 : i + 1 < E) :
    b = false ∧ fr ≤ i ∧ PtI m a E (i + 1) (i + 2) (out ++ [(m.take i).drop fr]) true := by
  have hb : b = false := by
    cases b with
    | false => rfl
    | true =>
      have := (s.on rfl).2.2
      rw [h1] at this
      cases this
  subst hb
  refine ⟨rfl, s.off rfl, ⟨?_, ⟨by have := s.le.1; omega, by omega, s.le.2.2⟩, fun _ => ⟨rfl, h3, h2⟩, fun h => (by cases h)⟩⟩
  have e := s.all
  rw [if_neg (by decide), take_drop_cons hi s.le.2.2] at e
  have e1 : m[i]'(by have := s.le.2.2; omega) = 44 := by
    rw [List.getElem?_eq_getElem (by have := s.le.2.2; omega)] at h1
    exact Option.some.inj h1
  have e2 : ((m.take E).drop (i + 1)).head? = some 32 := by
    rw [List.head?_drop, List.getElem?_take, if_pos h3, h2]
  rw [e1, spl2, if_neg (by decide), if_pos ⟨rfl, e2⟩] at e
  rw [if_pos rfl, ← e]
  simp
theorem PtI.step {m : List UInt8} {a E i fr : Nat} {out : List (List UInt8)} {b : Bool} (s : PtI m a E i fr out b) (hi : i < E) (h : ¬ (m[i]? = some 44 ∧ m[i + 1]? = some 32 ∧ i + 1 < E)) : PtI m a E (i + 1) fr out false := by
  have hE := s.le.2.2
  have e := s.all
  have ht : m.take (i + 1) = m.take i ++ [m[i]'(by omega)] := List.take_succ_eq_append_getElem (by omega)
  have hlt : (m.take i).length = i := by rw [List.length_take]; omega
  refine ⟨?_, ⟨by have := s.le.1; omega, hi, hE⟩, fun h => (by cases h), fun _ => ?_⟩
  · rw [take_drop_cons hi hE, spl2] at e
    cases b with
    | true =>
      have hf := (s.on rfl).1
      rw [if_pos rfl] at e
      rw [if_neg (by decide), hf, ht, List.drop_eq_nil_of_le (by rw [List.length_append, hlt]; simp)]
      exact e
    | false =>
      have hf := s.off rfl
      have hX : ¬ (m[i]'(by omega) = 44 ∧ ((m.take E).drop (i + 1)).head? = some 32) := by
        rintro ⟨h1, h2⟩
        rw [List.head?_drop, List.getElem?_take] at h2
        split at h2
        · rename_i h3
          exact h ⟨by rw [List.getElem?_eq_getElem (by omega), h1], h2, h3⟩
        · cases h2
      simp only [Bool.false_eq_true, if_false] at e
      rw [if_neg hX] at e
      rw [if_neg (by decide), ht, List.drop_append_of_le_length (by omega)]
      exact e
  · cases b with
    | true => have := (s.on rfl).1; omega
    | false => have := s.off rfl; omega
theorem PtI.done {m : List UInt8} {a E fr : Nat} {out : List (List UInt8)} {b : Bool} (s : PtI m a E E fr out b) : fr ≤ E ∧ out ++ [(m.take E).drop fr] = spl2 false [] ((m.take E).drop a) := by
  cases b with
  | true => have := (s.on rfl).2.1; omega
  | false =>
    have e := s.all
    have e0 : (m.take E).drop E = [] := List.drop_eq_nil_of_le (by rw [List.length_take]; omega)
    rw [if_neg (by decide), e0] at e
    exact ⟨s.off rfl, by rw [← e]; rfl⟩
/-- Where the first bracket stands; at the end, if there is none. -/
def brk : List UInt8 → Nat
  | [] => 0
  | x :: r => if x = 40 then 0 else brk r + 1
theorem brk_le : ∀ s : List UInt8, brk s ≤ s.length
  | [] => Nat.le_refl _
  | x :: r => by
    have := brk_le r
    rw [brk]
    split
    · exact Nat.zero_le _
    · rw [List.length_cons]; omega
theorem brk_is : ∀ (s : List UInt8) (a : Nat), a ≤ s.length → (∀ j < a, s[j]? ≠ some 40) → (a = s.length ∨ s[a]? = some 40) → brk s = a
  | [], a, h1, h2, h3 => by simp at h1; subst h1; rfl
  | x :: r, a, h1, h2, h3 => by
    rw [brk]
    cases a with
    | zero =>
      rcases h3 with h | h
      · simp at h
      · simp at h
        rw [if_pos h]
    | succ a =>
      have hx : ¬ x = 40 := fun e => h2 0 (by omega) (by simp [e])
      rw [if_neg hx, brk_is r a (by simpa using h1) (fun j hj => by simpa using h2 (j + 1) (by omega)) (by simpa using h3)]
theorem brk_app : ∀ (a b : List UInt8), (∀ x ∈ a, x ≠ 40) → brk (a ++ 40 :: b) = a.length
  | [], b, _ => rfl
  | x :: a, b, h => by
    rw [List.cons_append, brk, if_neg (h x List.mem_cons_self), brk_app a b (fun y hy => h y (List.mem_cons_of_mem _ hy))]
    rfl
/-- A text's word and items, if it is written so. -/
def ptB (s : List UInt8) : Option (List UInt8 × List (List UInt8)) :=
  if s.length ≤ brk s + 1 ∨ s[s.length - 1]? ≠ some 41 then none else some (s.take (brk s), spl2 false [] ((s.take (s.length - 1)).drop (brk s + 1)))
def redB (w : List UInt8) : Int := if w = [115, 117, 109] then 0 else if w = [109, 97, 120] then 1 else if w = [109, 105, 110] then 2 else 3
theorem redB_red {o : Int} (h0 : 0 ≤ o) (h : o ≤ 2) : redB (redL o) = o := by
  have : o = 0 ∨ o = 1 ∨ o = 2 := by omega
  rcases this with rfl | rfl | rfl <;> decide
def nbF (items : List (List UInt8)) : Nat → Option (List Int)
  | 0 => some []
  | i + 1 => match nbF items i with | none => none | some l => if (rdB (items.getD i [])).2 = true then some (l ++ [(rdB (items.getD i [])).1]) else none
def redK (k : Int) : Prop := k = 17 ∨ k = 18
instance (k : Int) : Decidable (redK k) := by unfold redK; infer_instance
/-- A call of a kind with these numbers. -/
def setB (k op : Int) (l : List Int) : Option Cl :=
  if usedL k = [7] then some { zeroC with k := k, op := op, rq := l }
  else if usedL k = [0, 1, 2, 3, 4] then (if l.length ≠ 5 then none else some { zeroC with k := k, op := op, co := l.getD 0 0, pe := l.getD 1 0, tg := l.getD 2 0, va := l.getD 3 0, sz := l.getD 4 0 })
  else if usedL k = [0, 1, 2] then (if l.length ≠ 3 then none else some { zeroC with k := k, op := op, co := l.getD 0 0, pe := l.getD 1 0, tg := l.getD 2 0 })
  else if usedL k = [0, 5, 3] ∨ usedL k = [0, 5, 3, 6] then (if l.length ≠ 3 then none else some { zeroC with k := k, op := op, co := l.getD 0 0, ro := l.getD 1 0, va := l.getD 2 0 })
  else if usedL k = [0, 3, 6] then (if l.length ≠ 2 then none else some { zeroC with k := k, op := op, co := l.getD 0 0, va := l.getD 1 0 })
  else if usedL k = [0, 8, 9] then (if l.length ≠ 3 then none else some { zeroC with k := k, op := op, co := l.getD 0 0, cl := l.getD 1 0, ky := l.getD 2 0 })
  else if l.length ≠ 1 then none else some { zeroC with k := k, op := op, co := l.getD 0 0 }
def readB (s : List UInt8) : Option Cl :=
  match ptB s with
  | none => none
  | some (w, args) =>
    if callOf w = 0 then none
    else if redK (callOf w : Nat) then (match nbF args.dropLast args.dropLast.length with | none => none | some l => setB (callOf w : Nat) (redB (args.getLastD [])) l)
    else (match nbF args args.length with | none => none | some l => setB (callOf w : Nat) 0 l)
theorem nbF_itoa : ∀ (l : List Int), (∀ z ∈ l, Fit z) → ∀ i, i ≤ l.length → nbF (l.map itoa) i = some (l.take i)
  | l, h, 0, _ => rfl
  | l, h, i + 1, hi => by
    have hi2 : i < l.length := hi
    rw [nbF, nbF_itoa l h i (by omega)]
    have e : (l.map itoa).getD i [] = itoa (l[i]'hi2) := by simp [List.getD, hi2]
    simp only
    have e2 := rdB_itoa (l[i]'hi2) (h _ (List.getElem_mem _))
    rw [e, e2, if_pos rfl, List.take_succ_eq_append_getElem hi2]
theorem ptB_text {c : Cl} (h : hasText c) : ptB (textOf c) = some (wordL c.k, itemsC c) := by
  have hk := used_kind h.1
  have e0 : textOf c = wordL c.k ++ 40 :: (argT c ++ [41]) := by unfold textOf; simp
  have eb : brk (textOf c) = (wordL c.k).length := by rw [e0]; exact brk_app _ _ (word_no hk)
  have el : (textOf c).length = (wordL c.k).length + 1 + (argT c).length + 1 := by rw [e0]; simp; omega
  unfold ptB
  rw [if_neg]
  · rw [eb, el]
    have e1 : (textOf c).take (wordL c.k).length = wordL c.k := by rw [e0, List.take_left]
    have e2 : ((textOf c).take ((wordL c.k).length + 1 + (argT c).length + 1 - 1)).drop ((wordL c.k).length + 1) = argT c := by
      rw [e0, show wordL c.k ++ 40 :: (argT c ++ [41]) = (wordL c.k ++ [40]) ++ argT c ++ [41] by simp, List.take_append_of_le_length (by simp; omega), List.take_of_length_le (by simp; omega), show (wordL c.k).length + 1 = (wordL c.k ++ [40]).length by simp, List.drop_left]
    rw [e1, e2]
    obtain ⟨h1, h2, h3⟩ := argT_items h
    rw [h1]
    cases e : itemsC c with
    | nil => exact absurd e h3
    | cons p l =>
      rw [e] at h2
      rw [spl2_jn2 p l h2]
  · rintro (h' | h')
    · rw [eb, el] at h'; omega
    · refine h' ?_
      rw [el, show (wordL c.k).length + 1 + (argT c).length + 1 - 1 = ((wordL c.k ++ [40]) ++ argT c).length by simp; omega]
      unfold textOf
      rw [List.getElem?_append_right (Nat.le_refl _)]
      simp
/-- The document reads a call's text as that call. -/
theorem readB_text {c : Cl} (ho : c.ok) (h : hasText c) : readB (textOf c) = some c := by
  have hk := used_kind h.1
  have e3 := call_word hk
  unfold readB
  rw [ptB_text h]
  simp only
  rw [e3, if_neg (by intro e; rw [e] at e3; have := hk.1; simp at e3; omega)]
  obtain ⟨k, co, pe, tg, va, sz, ro, op, rq, cl, ky⟩ := c
  have ht := h.2.1
  have ho2 := h.2.2.1
  have hop := ho.op.1
  have p1 := rdB_itoa co ho.co
  have p2 := rdB_itoa pe ho.pe
  have p3 := rdB_itoa tg ho.tg
  have p4 := rdB_itoa va ho.va
  have p5 := rdB_itoa sz ho.sz
  have p6 := rdB_itoa ro ho.ro
  have p7 := rdB_itoa cl ho.cl
  have p8 := rdB_itoa ky ho.ky
  have pr := redB_red hop ho2
  have pq := nbF_itoa rq ho.rq rq.length (Nat.le_refl _)
  rw [List.take_length] at pq
  simp only at p1 p2 p3 p4 p5 p6 p7 p8 pr pq
  have h0 := h.1
  clear ho h hop ho2 e3
  simp only at h0 hk
  have hr : redK k ↔ (usedL k = [0, 5, 3, 6] ∨ usedL k = [0, 3, 6]) := by
    obtain ⟨h1, h2⟩ := hk
    obtain ⟨n, rfl⟩ : ∃ n : Nat, k = n := ⟨k.toNat, by omega⟩
    have h : ∀ n : Fin 23, redK (n.1 : Int) ↔ (usedL (n.1 : Int) = [0, 5, 3, 6] ∨ usedL (n.1 : Int) = [0, 3, 6]) := by decide +kernel
    exact h ⟨n, by omega⟩
  rcases shapes k with ⟨e, _⟩ | ⟨e, _⟩ | ⟨e, _⟩ | ⟨e, _⟩ | ⟨e, _⟩ | ⟨e, _⟩ | ⟨e, _⟩ | ⟨e, _⟩ | ⟨e, _⟩
  · exact absurd e h0
  all_goals
    rw [e] at hr
    simp [trimC, hasF, e] at ht
    simp at hr
    simp [ht, hr, itemsC, numsOf, hasF, e, nbF, setB, zeroC, numF, p1, p2, p3, p4, p5, p6, p7, p8, pr, pq]
theorem parsedB_no {s : List UInt8} (h : readB s = none) : ParsedAs s none := .inr ⟨rfl, fun c ho ht e => by
  subst e
  rw [readB_text ho ht] at h
  cases h⟩
theorem parsedB_other {s : List UInt8} {c : Cl} (h : readB s = some c) (hn : ¬ (hasText c ∧ textOf c = s)) : ParsedAs s none := .inr ⟨rfl, fun c' ho ht e => by
  subst e
  rw [readB_text ho ht] at h
  injection h with h
  subst h
  exact hn ⟨ht, rfl⟩⟩
end Cal
end Go.Proofs.YthcoelkpiflfeaaDoor
