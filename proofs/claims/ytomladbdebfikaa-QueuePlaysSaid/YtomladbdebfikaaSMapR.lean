/- Maps whose keys are structs: a range over one, whatever its round writes elsewhere. Of any program; no program's text. -/
import Derived.Test.YtomladbdebfikaaRows
import Derived.Test.YtomladbdebfikaaSMap
import Derived.Maps.RangeRun
namespace Go.Proofs.Ytomladbdebfikaa
open Go Go.RowKit
open Go.ChangeMaps (setBlock)
set_option linter.unusedVariables false
set_option linter.unusedSimpArgs false
set_option linter.unusedSectionVars false
namespace SMap
variable {P : Program} {κ : Type} [DecidableEq κ] {kv : κ → Value}
theorem ent_born : ∀ (l : List (κ × Value)) (n : Nat), (ent kv n l).map (·.born) = List.range' n l.length
  | [], n => rfl
  | x :: l, n => by rw [ent, List.map_cons, ent_born l (n + 1), List.length_cons, List.range'_succ]
theorem ent_mem {l : List (κ × Value)} {e : MapEntry} (h : e ∈ ent kv 0 l) : ∃ p, l[e.born]? = some p ∧ e.key = kv p.1 ∧ e.val = p.2 := by
  obtain ⟨i, hi⟩ := List.mem_iff_getElem?.1 h
  rw [ent_get] at hi
  cases hp : l[i]? with
  | none => rw [hp] at hi; cases hi
  | some p =>
    rw [hp] at hi
    simp at hi
    subst hi
    exact ⟨p, hp, rfl, rfl⟩
/-- What a range has handed out: ks, by the stamps seen. -/
structure Rng (l : List (κ × Value)) (seen : Array Nat) (ks : List (κ × Value)) : Prop where
  nd : seen.toList.Nodup
  lt : ∀ b ∈ seen.toList, b < l.length
  ks : ks.map some = seen.toList.map fun b => l[b]?
theorem Rng.start (l : List (κ × Value)) : Rng l #[] [] := ⟨by simp, by simp, rfl⟩
theorem Rng.step {l : List (κ × Value)} {seen : Array Nat} {ks : List (κ × Value)} (h : Rng l seen ks) {e : MapEntry} (he : e ∈ (leftOf (ent kv 0 l).toArray seen).toList) :
    ∃ p, p ∈ l ∧ e.key = kv p.1 ∧ e.val = p.2 ∧ Rng l (seen.push e.born) (ks ++ [p]) := by
  obtain ⟨h1, h2⟩ := mem_left he
  obtain ⟨p, hp, hk, hv⟩ := ent_mem (kv := kv) (l := l) (e := e) (by simpa using h1)
  have hn : ¬ e.born ∈ seen.toList := fun hm => by
    have : seen.contains e.born = true := by simpa using hm
    rw [this] at h2
    cases h2
  refine ⟨p, List.mem_of_getElem? hp, hk, hv, ?_, fun b hb => ?_, ?_⟩
  · rw [Array.toList_push, List.nodup_append]
    refine ⟨h.nd, by simp, fun a ha b hb e => ?_⟩
    rw [List.mem_singleton.1 hb] at e
    rw [e] at ha
    exact hn ha
  · rw [Array.toList_push] at hb
    rcases List.mem_append.1 hb with hb | hb
    · exact h.lt b hb
    · rw [List.mem_singleton.1 hb]
      exact (List.getElem?_eq_some_iff.1 hp).1
  · rw [List.map_append, Array.toList_push, List.map_append, h.ks, List.map_singleton, List.map_singleton, hp]
theorem Rng.all {l : List (κ × Value)} {seen : Array Nat} {ks : List (κ × Value)} (h : Rng l seen ks) (h0 : (leftOf (ent kv 0 l).toArray seen).size = 0) : ks.Perm l := by
  have hall : ∀ b, b < l.length → b ∈ seen.toList := fun b hb => by
    have hg : (ent kv 0 l)[b]? = some { key := kv l[b].1, val := l[b].2, born := 0 + b } := by rw [ent_get, List.getElem?_eq_getElem hb]; rfl
    have hm := List.mem_of_getElem? hg
    have hnil : (leftOf (ent kv 0 l).toArray seen) = #[] := Array.eq_empty_of_size_eq_zero h0
    unfold leftOf at hnil
    rw [Array.filter_eq_empty_iff] at hnil
    have := hnil _ (List.mem_toArray.2 hm)
    simpa using this
  have hp : seen.toList.Perm (List.range l.length) := by
    rw [List.perm_ext_iff_of_nodup h.nd List.nodup_range]
    exact fun b => ⟨fun hb => List.mem_range.2 (h.lt b hb), fun hb => hall b (List.mem_range.1 hb)⟩
  have h2 : (ks.map some).Perm (l.map some) := by
    rw [h.ks]
    refine (hp.map _).trans (List.Perm.of_eq ?_)
    apply List.ext_getElem?
    intro i
    rw [List.getElem?_map, List.getElem?_map]
    by_cases hi : i < l.length
    · rw [List.getElem?_range hi, List.getElem?_eq_getElem hi]
      simp
    · rw [List.getElem?_eq_none (by rw [List.length_range]; omega), List.getElem?_eq_none (by omega)]
      rfl
  have := h2.filterMap id
  simpa [List.filterMap_map] using this
theorem Rng.len {l : List (κ × Value)} {seen : Array Nat} {ks : List (κ × Value)} (h : Rng l seen ks) : ks.length ≤ l.length := by
  have e : ks.length = seen.toList.length := by have := congrArg List.length h.ks; simpa using this
  rw [e]
  have hp : seen.toList.Perm ((List.range l.length).filter fun b => decide (b ∈ seen.toList)) := by
    rw [List.perm_ext_iff_of_nodup h.nd (List.nodup_range.filter _)]
    intro b
    rw [List.mem_filter, List.mem_range, decide_eq_true_eq]
    exact ⟨fun hb => ⟨h.lt b hb, hb⟩, fun hb => hb.2⟩
  rw [hp.length_eq]
  exact Nat.le_trans (List.length_filter_le _ _) (by simp)
theorem Rng.mem {l : List (κ × Value)} {seen : Array Nat} {ks : List (κ × Value)} (h : Rng l seen ks) {p : κ × Value} (hp : p ∈ ks) : p ∈ l := by
  have : some p ∈ ks.map some := List.mem_map.2 ⟨p, hp, rfl⟩
  rw [h.ks] at this
  obtain ⟨b, _, hb⟩ := List.mem_map.1 this
  exact List.mem_of_getElem? hb
theorem Rng.keys {l : List (κ × Value)} {seen : Array Nat} {ks : List (κ × Value)} (h : Rng l seen ks) (hn : (l.map (·.1)).Nodup) : (ks.map (·.1)).Nodup := by
  have e : (ks.map (·.1)).map some = seen.toList.map fun b => (l[b]?).map (·.1) := by
    have := congrArg (List.map (Option.map (·.1))) h.ks
    rw [List.map_map, List.map_map] at this
    rw [List.map_map]
    exact this
  have h2 : (seen.toList.map fun b => (l[b]?).map (·.1)).Nodup := by
    unfold List.Nodup
    rw [List.pairwise_map]
    refine List.Pairwise.imp_of_mem (fun {a b} ha hb hne e2 => ?_) h.nd
    have la := h.lt a ha
    have lb := h.lt b hb
    rw [List.getElem?_eq_getElem la, List.getElem?_eq_getElem lb, Option.map_some, Option.map_some] at e2
    have e3 : (l.map (·.1))[a]'(by simpa using la) = (l.map (·.1))[b]'(by simpa using lb) := by
      rw [List.getElem_map, List.getElem_map]
      exact Option.some.inj e2
    exact hne ((List.getElem_inj hn).1 e3)
  rw [← e] at h2
  exact (List.pairwise_map.1 h2).imp fun hne e2 => hne (by rw [e2])
/-- The iterator, in block r. -/
def It (w : World) (r bm n : Nat) (seen : Array Nat) : Prop := w.heap[r]? = some (.mapIter (some bm) n seen n)
theorem run_range {mt kt vt : TypeId} (hm : P.underlying mt = some (.map kt vt)) (l : List (κ × Value)) (r : Nat) (w : World) (hb : MB kv w r l) :
    (Instr.range mt (.map (some r))).run P w = .ok (.pointer (some ⟨w.heap.size, 0, none⟩)) (w.alloc (.mapIter (some r) l.length #[] l.length)) ∧ It (w.alloc (.mapIter (some r) l.length #[] l.length)) w.heap.size r l.length #[] :=
  ⟨run_range_map (P := P) w mt kt vt r _ _ hm hb, heap_alloc_new w _⟩
theorem iter_seen {w : World} {r bm n : Nat} {seen : Array Nat} (h : It w r bm n seen) : w.iterSeen r = seen := by
  unfold World.iterSeen
  unfold It at h
  rw [h]
/-- A step of the range: all is handed out, or one entry more. -/
theorem run_next {l ks : List (κ × Value)} {seen : Array Nat} (w : World) (r bm : Nat) (hi : It w r bm l.length seen) (hb : MB kv w bm l) (hg : Rng l seen ks) (hne : bm ≠ r) :
    (ks.Perm l ∧ ∀ ty, (Instr.next (.pointer (some ⟨r, 0, none⟩)) false ty).run P w = .ok (.tuple #[.bool false]) w) ∨
    ∃ (p : κ × Value) (e : MapEntry) (w1 : World), p ∈ l ∧ e ∈ (leftOf (ent kv 0 l).toArray seen).toList ∧ Rng l (seen.push e.born) (ks ++ [p]) ∧
      (∀ ty, (Instr.next (.pointer (some ⟨r, 0, none⟩)) false ty).run P w = .ok (.tuple #[.bool true, kv p.1, p.2]) w1) ∧
      (Instr.entry (.pointer (some ⟨r, 0, none⟩))).run P w1 = .ok (.tuple #[kv p.1, p.2]) w1 ∧ It w1 r bm l.length (seen.push e.born) ∧ w.grownBy w1 (some r) ∧ w1.heap.size = w.heap.size := by
  have hlt : r < w.heap.size := (Array.getElem?_eq_some_iff.1 hi).1
  have hold : ∀ x ∈ (ent kv 0 l).toArray.toList, x.born < l.length := fun x hx => by
    have : x.born ∈ (ent kv 0 l).map (·.born) := List.mem_map_of_mem (by simpa using hx)
    rw [ent_born] at this
    have := List.mem_range'.1 this
    omega
  have hnd : ((ent kv 0 l).toArray.toList.map (·.born)).Nodup := by
    rw [show (ent kv 0 l).toArray.toList = ent kv 0 l by simp, ent_born]
    exact List.nodup_range'
  by_cases h0 : (leftOf (ent kv 0 l).toArray seen).size = 0
  · refine .inl ⟨hg.all h0, fun ty => ?_⟩
    rcases run_next_at (P := P) w ty r bm l.length l.length seen _ _ hi hb hold (Nat.le_refl _) with ⟨_, h⟩ | ⟨e, he, _⟩
    · exact h
    · have : leftOf (ent kv 0 l).toArray seen = #[] := Array.eq_empty_of_size_eq_zero h0
      rw [this] at he
      cases he
  · rcases run_next_at (P := P) w 0 r bm l.length l.length seen _ _ hi hb hold (Nat.le_refl _) with ⟨h, _⟩ | ⟨e, he, w1, hw1, h⟩
    · exact absurd h h0
    · obtain ⟨p, hp, hk, hv, hr⟩ := hg.step he
      have hb1 : w1.heap = w.heap := by rcases hw1 with rfl | rfl <;> rfl
      have hi1 : It (setBlock w1 r (.mapIter (some bm) l.length (seen.push e.born) l.length)) r bm l.length (seen.push e.born) := by
        unfold It setBlock
        simp [hb1, hlt]
      have hbm : MB kv (setBlock w1 r (.mapIter (some bm) l.length (seen.push e.born) l.length)) bm l := by
        unfold MB setBlock
        rw [hb1]
        simp only [Array.getElem?_setIfInBounds]
        rw [if_neg (fun e => hne e.symm)]
        exact hb
      have hen := run_entry_at (P := P) _ r bm l.length seen _ l.length e hi1 hbm (mem_left he).1 hnd
      rw [hk, hv] at h hen
      refine .inr ⟨p, e, _, hp, he, hr, fun ty => ?_, hen, hi1, ?_, ?_⟩
      · exact h
      · refine ⟨?_, ?_, ?_, ?_, fun k hk hne' => ?_⟩
        · rcases hw1 with rfl | rfl <;> rfl
        · rcases hw1 with rfl | rfl <;> rfl
        · rcases hw1 with rfl | rfl <;> rfl
        · unfold setBlock; simp [hb1]
        · unfold setBlock
          simp only [Array.getElem?_setIfInBounds]
          rw [if_neg (fun e => hne' (by rw [e])), hb1]
      · unfold setBlock; simp [hb1]
end SMap
end Go.Proofs.Ytomladbdebfikaa
