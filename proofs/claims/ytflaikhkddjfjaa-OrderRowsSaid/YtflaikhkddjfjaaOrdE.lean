/- What the program's events tell: clocks and depths. And what asks them: Many, there, Depth, Clock, Ahead, Past. -/
import Derived.Test.YtflaikhkddjfjaaRows
import Derived.Test.YtflaikhkddjfjaaOrdD
import Derived.BigQuiet
import Derived.LoopN
namespace Go.Proofs.Ytflaikhkddjfjaa
open Go Go.RowKit
set_option linter.unusedVariables false
set_option linter.unusedSimpArgs false
namespace Ord
theorem ex_cons {α : Type} {p : α → Prop} {k : α} {l : List α} : (∃ x ∈ k :: l, p x) ↔ p k ∨ ∃ x ∈ l, p x := by simp
theorem foldM_lt {n : Nat} {es : List Eo} (h : Fit n es) : ∀ (l : List Nat) (c : List Int), (∀ k ∈ l, k < es.length) → Ck n es.length c → ∀ (q : Nat) (x : Int), x < (foldM es c l).getD q 0 ↔ x < c.getD q 0 ∨ ∃ k ∈ l, x < (es.getD k default).ck.getD q 0
  | [], c, _, hc, q, x => by simp [foldM]
  | k :: l, c, hl, hc, q, x => by
    have M := hc.merge (h.at_ (hl k List.mem_cons_self)).1 h.n1 h.n64 (by have := h.le; omega)
    rw [foldM, foldM_lt h l _ (fun x hx => hl x (List.mem_cons_of_mem _ hx)) M.1, M.2]
    rw [ex_cons, ← or_assoc]
    refine or_congr ?_ Iff.rfl
    omega
theorem foldD_lt (es : List Eo) : ∀ (l : List Nat) (d x : Nat), x < foldD es d l ↔ x < d ∨ ∃ k ∈ l, x < 1 + (es.getD k default).d
  | [], d, x => by simp [foldD]
  | k :: l, d, x => by
    rw [foldD, foldD_lt es l, ex_cons, ← or_assoc]
    refine or_congr ?_ Iff.rfl
    omega
theorem getD_left {es : List Eo} {x : Eo} {i : Nat} (h : i < es.length) : (es ++ [x]).getD i default = es.getD i default := by
  rw [List.getD_eq_getElem?_getD, List.getD_eq_getElem?_getD, List.getElem?_append_left h]
theorem getD_last (es : List Eo) (x : Eo) : (es ++ [x]).getD es.length default = x := by
  rw [List.getD_eq_getElem?_getD, List.getElem?_append_right (Nat.le_refl _)]
  simp
theorem getD_getE {es : List Eo} {i : Nat} (h : i < es.length) : es.getD i default = es[i] := by
  rw [List.getD_eq_getElem?_getD, List.getElem?_eq_getElem h]
  rfl
/-- How deep: one more than the deepest of those ahead. -/
def Deep (E : Nat → Ev) (f : Nat → Nat) (i : Nat) : Prop := ∀ x, x < f i ↔ x < 1 ∨ ∃ k, Ah E i k ∧ x < 1 + f k
theorem Deep.eq {E : Nat → Ev} {f g : Nat → Nat} {N : Nat} (hf : ∀ i < N, Deep E f i) (hg : ∀ i < N, Deep E g i) : ∀ i, i < N → f i = g i := by
  intro i
  induction i using Nat.strongRecOn with
  | _ i ih =>
    intro hi
    have e : ∀ x, x < f i ↔ x < g i := fun x => by
      rw [hf i hi x, hg i hi x]
      refine or_congr Iff.rfl ⟨?_, ?_⟩
      · rintro ⟨k, hk, hx⟩
        exact ⟨k, hk, by rw [← ih k hk.lt (Nat.lt_trans hk.lt hi)]; exact hx⟩
      · rintro ⟨k, hk, hx⟩
        exact ⟨k, hk, by rw [ih k hk.lt (Nat.lt_trans hk.lt hi)]; exact hx⟩
    have a := e (f i)
    have b := e (g i)
    omega
structure Sound (n : Nat) (E : Nat → Ev) (es : List Eo) : Prop where
  r : ∀ i, i < es.length → (es.getD i default).r = (E i).r ∧ (E i).r < n
  len : ∀ i, i < es.length → (es.getD i default).ck.length = n
  pos : ∀ i, i < es.length → ∀ q, 0 ≤ (es.getD i default).ck.getD q 0
  t : ∀ i, i < es.length → Tells E i fun q => ((es.getD i default).ck.getD q 0).toNat
  d : ∀ i, i < es.length → Deep E (fun k => (es.getD k default).d) i
theorem Grow.sound {n : Nat} {E : Nat → Ev} {es : List Eo} (h : Grow n E es) (h1 : 1 ≤ n) (h2 : n ≤ 64) : es.length ≤ 120 → Sound n E es := by
  induction h with
  | nil => exact fun _ => ⟨fun i hi => absurd hi (Nat.not_lt_zero i), fun i hi => absurd hi (Nat.not_lt_zero i), fun i hi => absurd hi (Nat.not_lt_zero i), fun i hi => absurd hi (Nat.not_lt_zero i), fun i hi => absurd hi (Nat.not_lt_zero i)⟩
  | @snoc es x hg hr ha hxr hxa hxc hxd ih =>
    intro hle
    rw [List.length_append, List.length_singleton] at hle
    have F := hg.fit h1 h2 (by omega)
    have S := ih (by omega)
    have hlt := ahead_lt hr ha
    have AO := ahead_of hr ha
    have hltx : ∀ k ∈ x.ah, k < es.length := by rw [hxa]; exact hlt
    have C := tick_ck (foldM_ck F x.ah _ hltx (zeros_ck n _)) h1 h2 (by have := F.le; omega) (show x.r < n by rw [hxr]; exact hr)
    have FC := foldM_ck F x.ah _ hltx (zeros_ck n _)
    have FL := foldM_lt F x.ah _ hltx (zeros_ck n _)
    rw [← hxc] at C
    have hz : ∀ q, (List.replicate n (0 : Int)).getD q 0 = 0 := fun q => by
      rw [List.getD_eq_getElem?_getD, List.getElem?_replicate]
      split <;> rfl
    have tl : Tells E es.length fun q => (x.ck.getD q 0).toNat := by
      have T := tells_merge (f := fun q => ((foldM es (List.replicate n 0) x.ah).getD q 0).toNat) (hxa ▸ AO) (F := fun k q => ((es.getD k default).ck.getD q 0).toNat) (fun k hk => S.t k (hltx k hk)) (fun q c => by
        have := FL q c
        rw [hz] at this
        show c < ((foldM es (List.replicate n 0) x.ah).getD q 0).toNat ↔ ∃ k ∈ x.ah, c < ((es.getD k default).ck.getD q 0).toNat
        rw [Int.lt_toNat, this]
        refine ⟨fun h => h.elim (fun h => absurd h (by omega)) fun ⟨k, hk, h⟩ => ⟨k, hk, Int.lt_toNat.2 h⟩, fun ⟨k, hk, h⟩ => .inr ⟨k, hk, Int.lt_toNat.1 h⟩⟩)
      have e : (fun q => (x.ck.getD q 0).toNat) = fun q => ((foldM es (List.replicate n 0) x.ah).getD q 0).toNat + (if (E es.length).r = q then 1 else 0) := by
        funext q
        rw [C.2 q, hxr]
        have := (FC.2 q).1
        split <;> omega
      rw [e]
      exact T
    have dp : Deep E (fun k => ((es ++ [x]).getD k default).d) es.length := by
      intro y
      show y < ((es ++ [x]).getD es.length default).d ↔ y < 1 ∨ ∃ k, Ah E es.length k ∧ y < 1 + ((es ++ [x]).getD k default).d
      rw [getD_last, hxd, foldD_lt]
      refine or_congr Iff.rfl ⟨?_, ?_⟩
      · rintro ⟨k, hk, hy⟩
        have hkl := hltx k hk
        rw [hxa] at hk
        exact ⟨k, .dir (AO.1 k hk), by rw [getD_left hkl]; exact hy⟩
      · rintro ⟨m, hm, hy⟩
        have hml := hm.lt
        rw [getD_left hml] at hy
        obtain ⟨k, hk, hl⟩ := AO.ah.1 hm
        rw [← hxa] at hk
        refine ⟨k, hk, ?_⟩
        rcases hl with rfl | hl
        · exact hy
        · have h3 := (S.d k (hltx k hk) (es.getD m default).d).2 (.inr ⟨m, hl, by show _ < 1 + (es.getD m default).d; omega⟩)
          have h4 : (es.getD m default).d < (es.getD k default).d := h3
          omega
    have cases_ : ∀ i, i < (es ++ [x]).length → i < es.length ∨ i = es.length := fun i hi => by
      rw [List.length_append, List.length_singleton] at hi
      omega
    refine ⟨fun i hi => ?_, fun i hi => ?_, fun i hi => ?_, fun i hi => ?_, fun i hi => ?_⟩
    · rcases cases_ i hi with h | rfl
      · rw [getD_left h]; exact S.r i h
      · rw [getD_last]; exact ⟨hxr, hr⟩
    · rcases cases_ i hi with h | rfl
      · rw [getD_left h]; exact S.len i h
      · rw [getD_last]; exact C.1.1
    · rcases cases_ i hi with h | rfl
      · rw [getD_left h]; exact S.pos i h
      · rw [getD_last]; exact fun q => (C.1.2 q).1
    · rcases cases_ i hi with h | rfl
      · rw [getD_left h]; exact S.t i h
      · rw [getD_last]; exact tl
    · rcases cases_ i hi with h | rfl
      · intro y
        have := S.d i h y
        show y < ((es ++ [x]).getD i default).d ↔ y < 1 ∨ ∃ k, Ah E i k ∧ y < 1 + ((es ++ [x]).getD k default).d
        rw [getD_left h]
        refine this.trans (or_congr Iff.rfl (exists_congr fun k => ⟨fun ⟨a, b⟩ => ⟨a, ?_⟩, fun ⟨a, b⟩ => ⟨a, ?_⟩⟩))
        · rw [getD_left (Nat.lt_trans a.lt h)]; exact b
        · rw [getD_left (Nat.lt_trans a.lt h)] at b; exact b
      · exact dp
end Ord
end Go.Proofs.Ytflaikhkddjfjaa
