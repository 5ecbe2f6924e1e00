/- Trees that are told by numbers, their leaves, and the levels that go through them, in plain words. No program's text. -/
import Derived.Test.YtiojpokfcejhcaaDoorRows
import Derived.Test.YtiojpokfcejhcaaDoorPathH
import Derived.Test.YtiojpokfcejhcaaDoorPathW
namespace Go.Proofs.YtiojpokfcejhcaaDoor
open Go Go.RowKit
set_option linter.unusedVariables false
set_option linter.unusedSimpArgs false
namespace Pth
def numW : Nat → List Sp → Nat
  | n, [] => n
  | n, s :: l => numW (3 * n + s.ch.f.toNat + (if s.off then 2 else 0)) l
def nodeN (sh : List Int) (way : List Sp) : Nat × Bool :=
  if 4 ≤ way.length ∨ sh.length = 0 then (0, false) else
    let x := sh.getD (numW way.length way % sh.length) 0
    (x.toNat % 4, decide (128 ≤ x))
theorem nodeN_lt {sh : List Int} {way : List Sp} (h : (nodeN sh way).1 ≠ 0) : way.length < 4 := by
  unfold nodeN at h
  split at h
  · exact absurd rfl h
  · omega
theorem nodeN_le (sh : List Int) (way : List Sp) : (nodeN sh way).1 ≤ 3 := by
  unfold nodeN
  split
  · simp
  · simp only
    omega
def kid (d i : Nat) : Sp := ⟨false, d, 0, ⟨d, 0, i, 0, 0⟩⟩
def kidOff (d : Nat) : Sp := ⟨true, d, 0, ⟨0, 0, 0, 0, 0⟩⟩
def kids (sh : List Int) (way : List Sp) : List Sp := (List.range (nodeN sh way).1).map (kid way.length) ++ (if (nodeN sh way).2 then [kidOff way.length] else [])
def leafL (sh : List Int) : Nat → List Sp → List (List Sp)
  | 0, way => [way]
  | f + 1, way => if (nodeN sh way).1 = 0 then [way] else (kids sh way).flatMap fun s => leafL sh f (way ++ [s])
def lf (sh : List Int) (way : List Sp) : List (List Sp) := leafL sh (4 - way.length) way
theorem lf_leaf {sh : List Int} {way : List Sp} (h : (nodeN sh way).1 = 0) : lf sh way = [way] := by
  unfold lf
  cases 4 - way.length with
  | zero => rfl
  | succ f => rw [leafL, if_pos h]
theorem lf_node {sh : List Int} {way : List Sp} (h : (nodeN sh way).1 ≠ 0) : lf sh way = (kids sh way).flatMap fun s => lf sh (way ++ [s]) := by
  have hl := nodeN_lt h
  unfold lf
  obtain ⟨f, hf⟩ : ∃ f, 4 - way.length = f + 1 := ⟨3 - way.length, by omega⟩
  rw [hf, leafL, if_neg h]
  have e : ∀ s : Sp, 4 - (way ++ [s]).length = f := fun s => by rw [List.length_append, List.length_singleton]; omega
  simp only [e]
theorem kids_len (sh : List Int) (way : List Sp) : (kids sh way).length = (nodeN sh way).1 + (if (nodeN sh way).2 then 1 else 0) := by
  unfold kids
  split <;> simp
theorem lf_ne (sh : List Int) : ∀ (f : Nat) (way : List Sp), leafL sh f way ≠ []
  | 0, way => by simp [leafL]
  | f + 1, way => by
    rw [leafL]
    split
    · simp
    · rename_i h
      intro e
      rw [List.flatMap_eq_nil_iff] at e
      have hk : 0 < (kids sh way).length := by rw [kids_len]; omega
      exact lf_ne sh f _ (e _ (List.getElem_mem hk))
/-- The leaves are few. -/
theorem flat_le {α β : Type} (f : α → List β) (n : Nat) : ∀ l : List α, (∀ x ∈ l, (f x).length ≤ n) → (l.flatMap f).length ≤ l.length * n
  | [], _ => by simp
  | x :: l, h => by
    rw [List.flatMap_cons, List.length_append, List.length_cons]
    have h1 := h x List.mem_cons_self
    have h2 := flat_le f n l fun y hy => h y (List.mem_cons_of_mem _ hy)
    rw [Nat.add_mul]
    omega
theorem leafL_len (sh : List Int) : ∀ (f : Nat) (way : List Sp), (leafL sh f way).length ≤ 4 ^ f
  | 0, way => by simp [leafL]
  | f + 1, way => by
    rw [leafL]
    split
    · have := Nat.one_le_pow (f + 1) 4 (by omega); simpa using this
    · have h1 := flat_le (fun s => leafL sh f (way ++ [s])) (4 ^ f) (kids sh way) fun s _ => leafL_len sh f _
      have h2 : (kids sh way).length ≤ 4 := by
        rw [kids_len]
        have := nodeN_le sh way
        split <;> omega
      have h3 : (kids sh way).length * 4 ^ f ≤ 4 * 4 ^ f := Nat.mul_le_mul_right _ h2
      rw [Nat.pow_succ]
      omega
theorem lf_len (sh : List Int) (way : List Sp) : (lf sh way).length ≤ 256 := by
  have h1 := leafL_len sh (4 - way.length) way
  have h2 : 4 ^ (4 - way.length) ≤ 4 ^ 4 := Nat.pow_le_pow_right (by omega) (by omega)
  unfold lf
  omega
/-- A step of a way. -/
def WOk (way : List Sp) : Prop := ∀ s ∈ way, 0 ≤ s.ch.f ∧ s.ch.f ≤ 2
theorem kids_ok {sh : List Int} {way : List Sp} {s : Sp} (h : s ∈ kids sh way) : 0 ≤ s.ch.f ∧ s.ch.f ≤ 2 := by
  unfold kids at h
  rcases List.mem_append.1 h with h | h
  · obtain ⟨i, hi, rfl⟩ := List.mem_map.1 h
    have h1 := List.mem_range.1 hi
    have h2 := nodeN_le sh way
    refine ⟨?_, ?_⟩
    · show (0 : Int) ≤ (i : Int)
      omega
    · show (i : Int) ≤ 2
      omega
  · split at h
    · rw [List.mem_singleton.1 h]
      exact ⟨Int.le_refl 0, by show (0 : Int) ≤ 2; omega⟩
    · cases h
theorem WOk.app {way : List Sp} {s : Sp} (h : WOk way) (hs : 0 ≤ s.ch.f ∧ s.ch.f ≤ 2) : WOk (way ++ [s]) := fun x hx => by
  rcases List.mem_append.1 hx with hx | hx
  · exact h x hx
  · rw [List.mem_singleton.1 hx]; exact hs
/-- A point's values. -/
def ptsL (d m : Nat) : List Ch := mk d 0 m
theorem ptsL_len (d m : Nat) : (ptsL d m).length = m := by simp [ptsL, mk]
/-- A level fits to the levels ahead. -/
def FitTo (sh : List Int) (ls : List Lv) (x : Lv) : Prop := x.r = ls.length ∧ x.c = 0 ∧ x.vs = ptsL ls.length (nodeN sh (stepsOf ls)).1 ∧ x.off = (nodeN sh (stepsOf ls)).2 ∧ 0 < (nodeN sh (stepsOf ls)).1 ∧ x.at_ < many x
theorem stepsOf_len (ls : List Lv) : (stepsOf ls).length = ls.length := by simp [stepsOf]
theorem stepsOf_snoc (ls : List Lv) (x : Lv) : stepsOf (ls ++ [x]) = stepsOf ls ++ [stepOf x.r x.c x.vs x.at_] := by simp [stepsOf]
theorem FitTo.many {sh : List Int} {ls : List Lv} {x : Lv} (h : FitTo sh ls x) : many x = (kids sh (stepsOf ls)).length := by
  obtain ⟨_, _, h3, h4, _⟩ := h
  unfold Pth.many
  rw [kids_len, h3, h4, ptsL_len]
theorem FitTo.step {sh : List Int} {ls : List Lv} {x : Lv} (h : FitTo sh ls x) : (kids sh (stepsOf ls))[x.at_]? = some (stepOf x.r x.c x.vs x.at_) := by
  have hm := h.many
  obtain ⟨h1, h2, h3, h4, h5, h6⟩ := h
  unfold stepOf
  have hl : x.vs.length = (nodeN sh (stepsOf ls)).1 := by rw [h3, ptsL_len]
  unfold kids
  by_cases e : x.at_ = x.vs.length
  · rw [if_pos e, List.getElem?_append_right (by simp; omega)]
    have ho : (nodeN sh (stepsOf ls)).2 = true := by
      rw [← h4]
      unfold Pth.many at h6
      cases hx : x.off
      · rw [hx] at h6; simp at h6; omega
      · rfl
    rw [if_pos ho, List.length_map, List.length_range, e, hl, Nat.sub_self, h1, h2, stepsOf_len]
    rfl
  · have hlt : x.at_ < (nodeN sh (stepsOf ls)).1 := by
      unfold Pth.many at h6
      split at h6 <;> omega
    rw [if_neg e, List.getElem?_append_left (by simp; omega), List.getElem?_map, List.getElem?_range hlt, h1, h2, h3, stepsOf_len]
    simp [kid, ptsL, mk, hlt]
inductive Tr (sh : List Int) : List Lv → Prop
  | nil : Tr sh []
  | snoc {ls : List Lv} {x : Lv} : Tr sh ls → FitTo sh ls x → Tr sh (ls ++ [x])
def aftR (sh : List Int) : List Lv → List (List Sp)
  | [] => []
  | x :: r => ((kids sh (stepsOf r.reverse)).drop (x.at_ + 1)).flatMap (fun s => lf sh (stepsOf r.reverse ++ [s])) ++ aftR sh r
def aft (sh : List Int) (ls : List Lv) : List (List Sp) := aftR sh ls.reverse
theorem aft_snoc (sh : List Int) (ls : List Lv) (x : Lv) : aft sh (ls ++ [x]) = ((kids sh (stepsOf ls)).drop (x.at_ + 1)).flatMap (fun s => lf sh (stepsOf ls ++ [s])) ++ aft sh ls := by
  unfold aft
  rw [List.reverse_append]
  show aftR sh (x :: ls.reverse) = _
  rw [aftR, List.reverse_reverse]
theorem Tr.len {sh : List Int} {ls : List Lv} (h : Tr sh ls) : ls.length ≤ 4 := by
  cases h with
  | nil => simp
  | @snoc ls x h1 h2 =>
    have := nodeN_lt (show (nodeN sh (stepsOf ls)).1 ≠ 0 by have := h2.2.2.2.2.1; omega)
    rw [stepsOf_len] at this
    rw [List.length_append, List.length_singleton]
    omega
theorem Tr.ok {sh : List Int} {ls : List Lv} (h : Tr sh ls) : WOk (stepsOf ls) := by
  induction h with
  | nil => intro s hs; cases hs
  | @snoc ls x h1 h2 ih =>
    rw [stepsOf_snoc]
    exact ih.app (kids_ok (List.mem_of_getElem? h2.step))
theorem Tr.fit {sh : List Int} {ls : List Lv} (h : Tr sh ls) : ∀ x ∈ ls, x.fit := by
  induction h with
  | nil => intro s hs; cases hs
  | @snoc ls x h1 h2 ih =>
    intro y hy
    rcases List.mem_append.1 hy with hy | hy
    · exact ih y hy
    · rw [List.mem_singleton.1 hy]
      have h3 := congrArg List.length h2.2.2.1
      rw [ptsL_len] at h3
      have h4 := nodeN_le sh (stepsOf ls)
      have h5 := h2.2.2.2.2.1
      have h6 := h2.2.2.2.2.2
      exact ⟨by omega, by omega, by omega⟩
/-- A push goes down. -/
theorem push_down {sh : List Int} {ls : List Lv} {x : Lv} (h : FitTo sh ls x) (h0 : x.at_ = 0) : lf sh (stepsOf ls) ++ aft sh ls = lf sh (stepsOf (ls ++ [x])) ++ aft sh (ls ++ [x]) := by
  have h1 := h.step
  rw [h0] at h1
  have hne : (nodeN sh (stepsOf ls)).1 ≠ 0 := by have := h.2.2.2.2.1; omega
  rw [lf_node hne, aft_snoc, stepsOf_snoc, h0]
  cases hk : kids sh (stepsOf ls) with
  | nil => rw [hk] at h1; cases h1
  | cons s r =>
    rw [hk] at h1
    obtain rfl : s = stepOf x.r x.c x.vs 0 := by simpa using h1
    simp
/-- Going on goes to the next one. -/
theorem next_on {sh : List Int} {ls : List Lv} (h : Tr sh ls) : (nextL ls = [] → aft sh ls = []) ∧ (nextL ls ≠ [] → Tr sh (nextL ls) ∧ aft sh ls = lf sh (stepsOf (nextL ls)) ++ aft sh (nextL ls)) := by
  induction h with
  | nil => exact ⟨fun _ => rfl, fun h => absurd rfl h⟩
  | @snoc ls x h1 h2 ih =>
    have hm := h2.many
    rw [nextL_snoc]
    by_cases hl : 0 < leftN x
    · rw [if_pos hl]
      refine ⟨fun h => absurd h (by simp), fun _ => ?_⟩
      have hon : FitTo sh ls x.on := by
        obtain ⟨a1, a2, a3, a4, a5, a6⟩ := h2
        refine ⟨a1, a2, a3, a4, a5, ?_⟩
        unfold leftN at hl
        show x.at_ + 1 < Pth.many x
        omega
      refine ⟨Tr.snoc h1 hon, ?_⟩
      have hs := hon.step
      rw [aft_snoc, aft_snoc, stepsOf_snoc]
      have hlt : x.at_ + 1 < (kids sh (stepsOf ls)).length := by
        rw [← hm]
        unfold leftN at hl
        omega
      rw [List.drop_eq_getElem_cons hlt]
      have hs' : (kids sh (stepsOf ls))[x.at_ + 1] = stepOf x.on.r x.on.c x.on.vs x.on.at_ := by
        have h3 : (kids sh (stepsOf ls))[x.at_ + 1]? = some (stepOf x.on.r x.on.c x.on.vs x.on.at_) := hs
        rw [List.getElem?_eq_getElem hlt] at h3
        exact Option.some.inj h3
      rw [hs']
      show _ = _ ++ (List.flatMap _ (List.drop (x.at_ + 1 + 1) _) ++ _)
      simp
    · rw [if_neg hl]
      have e : aft sh (ls ++ [x]) = aft sh ls := by
        rw [aft_snoc, List.drop_eq_nil_of_le (by rw [← hm]; unfold leftN at hl; have := h2.2.2.2.2.2; omega)]
        simp
      rw [e]
      exact ih
end Pth
end Go.Proofs.YtiojpokfcejhcaaDoor
