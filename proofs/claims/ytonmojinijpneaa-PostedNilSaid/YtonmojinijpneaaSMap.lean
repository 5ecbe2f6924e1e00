/- Maps whose keys are structs: look-up, store, range. Of any program; no program's text. -/
import Derived.Test.YtonmojinijpneaaRows
import Derived.Test.YtonmojinijpneaaBase
import Derived.Laws.StructEq
import Derived.MapKept
import Derived.Laws.IdiomRangeMap
namespace Go.Proofs.Ytonmojinijpneaa
open Go Go.RowKit
set_option linter.unusedVariables false
set_option linter.unusedSimpArgs false
set_option linter.unusedSectionVars false
namespace SMap
variable {P : Program} {κ : Type} [DecidableEq κ]
/-- A type of keys: how its values are written; what the program asks of them. -/
structure KeyTy (P : Program) (kt : TypeId) (kv : κ → Value) : Prop where
  und : ∃ fs, P.underlying kt = some (.struct fs)
  eq : ∀ x y w, (Op.equal kt (kv x) (kv y)).run P w = .ok (decide (x = y)) w
  ok : ∀ x b w, (Instr.checkKey b 10000 kt (kv x)).run P w = .ok () w
  same : ∀ x, Instr.sameBits 10000 (kv x) (kv x) = true
def ent (kv : κ → Value) : Nat → List (κ × Value) → List MapEntry
  | _, [] => []
  | n, x :: l => { key := kv x.1, val := x.2, born := n } :: ent kv (n + 1) l
def ix : List (κ × Value) → κ → Option (Nat × Value)
  | [], _ => none
  | x :: l, c => if c = x.1 then some (0, x.2) else (ix l c).map fun p => (p.1 + 1, p.2)
/-- What lies at a key. -/
def look (l : List (κ × Value)) (c : κ) : Option Value := (ix l c).map (·.2)
/-- A value is put at a key. -/
def put : List (κ × Value) → κ → Value → List (κ × Value)
  | [], c, v => [(c, v)]
  | x :: l, c, v => if c = x.1 then (c, v) :: l else x :: put l c v
/-- The map's block. -/
def MB (kv : κ → Value) (w : World) (r : Nat) (l : List (κ × Value)) : Prop := w.heap[r]? = some (.map (ent kv 0 l).toArray l.length)
variable {kv : κ → Value}
theorem MB.lt {w : World} {r : Nat} {l : List (κ × Value)} (h : MB kv w r l) : r < w.heap.size := (Array.getElem?_eq_some_iff.1 h).1
theorem MB.below {w w' : World} {B r : Nat} {l : List (κ × Value)} (h : MB kv w r l) (hb : Below B w w') (hr : r < B) : MB kv w' r l := (hb.block r hr).trans h
theorem MB.far {w : World} {r : Nat} {l : List (κ × Value)} (h : MB kv w r l) {p : Addr} (hp : r ≠ p.block) (u : Value) : MB kv (w.setCell p u) r l := (Below.heap_setCell w p u r hp).trans h
theorem ent_app (kv : κ → Value) : ∀ (a b : List (κ × Value)) (n : Nat), ent kv n (a ++ b) = ent kv n a ++ ent kv (n + a.length) b
  | [], b, n => rfl
  | y :: l, b, n => by
    rw [List.cons_append, ent, ent, ent_app kv l b (n + 1), List.length_cons, List.cons_append, show n + 1 + l.length = n + (l.length + 1) by omega]
theorem ent_len (kv : κ → Value) : ∀ (l : List (κ × Value)) (n : Nat), (ent kv n l).length = l.length
  | [], _ => rfl
  | x :: l, n => by rw [ent, List.length_cons, ent_len kv l (n + 1), List.length_cons]
theorem look_nil (c : κ) : look ([] : List (κ × Value)) c = none := rfl
theorem look_cons (x : κ × Value) (l : List (κ × Value)) (c : κ) : look (x :: l) c = if c = x.1 then some x.2 else look l c := by
  unfold look
  rw [ix]
  split
  · rfl
  · rw [Option.map_map]; rfl
theorem look_put : ∀ (l : List (κ × Value)) (c d : κ) (v : Value), look (put l c v) d = if d = c then some v else look l d
  | [], c, d, v => by rw [put, look_cons]
  | x :: l, c, d, v => by
    rw [put]
    split
    · rename_i h
      rw [look_cons, look_cons, ← h]
      split
      · rfl
      · rfl
    · rename_i h
      rw [look_cons, look_cons, look_put l c d v]
      by_cases h1 : d = c
      · subst h1
        simp [h]
      · simp [h1]
theorem put_new : ∀ (l : List (κ × Value)) (c : κ) (v : Value), look l c = none → put l c v = l ++ [(c, v)]
  | [], c, v, _ => rfl
  | x :: l, c, v, h => by
    rw [look_cons] at h
    rw [put]
    split at h
    · cases h
    · rename_i h1
      rw [if_neg h1, put_new l c v h, List.cons_append]
theorem put_keys : ∀ (l : List (κ × Value)) (c : κ) (v : Value) (d : κ), d ∈ (put l c v).map (·.1) → d = c ∨ d ∈ l.map (·.1)
  | [], c, v, d, h => by simp [put] at h; exact .inl h
  | x :: l, c, v, d, h => by
    rw [put] at h
    split at h
    · rename_i h1
      rw [List.map_cons, List.mem_cons] at h
      rcases h with h | h
      · exact .inl h
      · exact .inr (List.mem_cons_of_mem _ h)
    · rw [List.map_cons, List.mem_cons] at h
      rcases h with h | h
      · exact .inr (by rw [h]; exact List.mem_cons_self)
      · rcases put_keys l c v d h with h | h
        · exact .inl h
        · exact .inr (List.mem_cons_of_mem _ h)
theorem put_nodup : ∀ (l : List (κ × Value)) (c : κ) (v : Value), (l.map (·.1)).Nodup → ((put l c v).map (·.1)).Nodup
  | [], c, v, _ => by simp [put]
  | x :: l, c, v, h => by
    have h' := List.nodup_cons.1 h
    rw [put]
    split
    · rename_i h1
      rw [List.map_cons, List.nodup_cons]
      exact ⟨by show c ∉ _; rw [h1]; exact h'.1, h'.2⟩
    · rename_i h1
      rw [List.map_cons, List.nodup_cons]
      refine ⟨fun hm => ?_, put_nodup l c v h'.2⟩
      rcases put_keys l c v _ hm with e | e
      · exact h1 e.symm
      · exact h'.1 e
theorem put_len_le (l : List (κ × Value)) (c : κ) (v : Value) : (put l c v).length ≤ l.length + 1 := by
  induction l with
  | nil => simp [put]
  | cons x l ih =>
    rw [put]
    split
    · simp
    · simp; omega
theorem mem_look : ∀ (l : List (κ × Value)), (l.map (·.1)).Nodup → ∀ p ∈ l, look l p.1 = some p.2
  | [], _, p, hp => absurd hp List.not_mem_nil
  | x :: l, h, p, hp => by
    have h' := List.nodup_cons.1 h
    rw [look_cons]
    rcases List.mem_cons.1 hp with rfl | hm
    · rw [if_pos rfl]
    · have : ¬ p.1 = x.1 := fun e => h'.1 (by show x.1 ∈ _; rw [← e]; exact List.mem_map_of_mem (f := (·.1)) hm)
      rw [if_neg this]
      exact mem_look l h'.2 p hm
theorem look_mem : ∀ (l : List (κ × Value)) (c : κ) (v : Value), look l c = some v → (c, v) ∈ l
  | x :: l, c, v, h => by
    rw [look_cons] at h
    split at h
    · rename_i h1
      cases h
      rw [h1]
      exact List.mem_cons_self
    · exact List.mem_cons_of_mem _ (look_mem l c v h)
theorem look_keys (l : List (κ × Value)) (c : κ) : c ∈ l.map (·.1) ↔ look l c ≠ none := by
  induction l with
  | nil => simp [look_nil]
  | cons x l ih =>
    rw [look_cons, List.map_cons, List.mem_cons, ih]
    by_cases h : c = x.1
    · simp [h]
    · simp [h]
theorem run_findAsking {kt : TypeId} (hk : KeyTy P kt kv) (c : κ) (w : World) : ∀ (l : List (κ × Value)) (n i : Nat), (Instr.findAsking kt (kv c) (ent kv n l) i).run P w = .ok ((ix l c).map fun p => (i + p.1, p.2)) w
  | [], n, i => by simp [ent, Instr.findAsking, ix]
  | x :: l, n, i => by
    have ih := run_findAsking hk c w l (n + 1) (i + 1)
    simp only [ent, Instr.findAsking, Sem.run_bind, hk.eq, Result.andThen_ok]
    rw [ix]
    by_cases h : c = x.1
    · simp [h]
    · simp only [h, decide_false, Bool.false_eq_true, if_false, ih]
      congr 1
      cases ix l c with
      | none => rfl
      | some p => simp [Option.map]; omega
theorem findNow_struct (fs : Array Field) (k : Value) : ∀ (es : List MapEntry), es ≠ [] → Instr.findNow (.struct fs) k es 0 = none
  | [], h => absurd rfl h
  | e :: es, _ => by
    have : Instr.sameNow (.struct fs) k e.key = none := by cases k <;> cases e.key <;> rfl
    simp [Instr.findNow, this]
theorem run_findKey {kt : TypeId} (hk : KeyTy P kt kv) (c : κ) (w : World) (l : List (κ × Value)) : (Instr.findKey kt (kv c) (ent kv 0 l)).run P w = .ok (ix l c) w := by
  obtain ⟨fs, hu⟩ := hk.und
  have hf := run_findAsking hk c w l 0 0
  have e0 : (ix l c).map (fun p => (0 + p.1, p.2)) = ix l c := by
    cases ix l c with
    | none => rfl
    | some p => simp
  cases l with
  | nil => simp [Instr.findKey, run_underlying hu, ent, Instr.findNow, ix]
  | cons x l =>
    simp only [Instr.findKey, Sem.run_bind, run_underlying hu, Result.andThen_ok, findNow_struct fs _ (ent kv 0 (x :: l)) (by simp [ent])]
    rw [hf, e0]
/-- A look-up, with and without 'ok'. -/
theorem run_lookup {mt kt vt : TypeId} {z : Value} (hk : KeyTy P kt kv) (hm : P.underlying mt = some (.map kt vt)) (hz : ∀ w, (zeroValue vt).run P w = .ok z w) (c : κ) (r : Nat) (l : List (κ × Value)) (w : World) (hb : MB kv w r l) :
    (Instr.lookup mt (.map (some r)) (kv c) false).run P w = .ok ((look l c).getD z) w := by
  have hg := MapKept.run_getObj_map (P := P) hb
  have hf := run_findKey hk c w l
  unfold look
  cases hx : ix l c with
  | none => rw [hx] at hf; simp [Instr.lookup, run_underlying hm, hg, hk.ok, hf, Result.andThen, hz]
  | some p => rw [hx] at hf; simp [Instr.lookup, run_underlying hm, hg, hk.ok, hf, Result.andThen]
theorem run_lookupOk {mt kt vt : TypeId} {z : Value} (hk : KeyTy P kt kv) (hm : P.underlying mt = some (.map kt vt)) (hz : ∀ w, (zeroValue vt).run P w = .ok z w) (c : κ) (r : Nat) (l : List (κ × Value)) (w : World) (hb : MB kv w r l) :
    (Instr.lookup mt (.map (some r)) (kv c) true).run P w = .ok (.tuple #[(look l c).getD z, .bool (look l c).isSome]) w := by
  have hg := MapKept.run_getObj_map (P := P) hb
  have hf := run_findKey hk c w l
  unfold look
  cases hx : ix l c with
  | none => rw [hx] at hf; simp [Instr.lookup, run_underlying hm, hg, hk.ok, hf, Result.andThen, hz]
  | some p => rw [hx] at hf; simp [Instr.lookup, run_underlying hm, hg, hk.ok, hf, Result.andThen]
theorem ix_none {l : List (κ × Value)} {c : κ} (h : ix l c = none) : look l c = none := by unfold look; rw [h]; rfl
theorem ix_get : ∀ (l : List (κ × Value)) (c : κ) (j : Nat) (v : Value), ix l c = some (j, v) → l[j]? = some (c, v)
  | x :: l, c, j, v, h => by
    rw [ix] at h
    split at h
    · rename_i h1
      cases h
      rw [h1]
      rfl
    · cases hx : ix l c with
      | none => rw [hx] at h; cases h
      | some p =>
        rw [hx] at h
        cases h
        exact ix_get l c p.1 p.2 hx
theorem ent_get (kv : κ → Value) : ∀ (l : List (κ × Value)) (n j : Nat), (ent kv n l)[j]? = (l[j]?).map fun p => { key := kv p.1, val := p.2, born := n + j }
  | [], n, j => by simp [ent]
  | x :: l, n, 0 => by simp [ent]
  | x :: l, n, j + 1 => by
    rw [ent, List.getElem?_cons_succ, List.getElem?_cons_succ, ent_get kv l (n + 1) j]
    congr 1
    funext p
    rw [show n + 1 + j = n + (j + 1) by omega]
theorem ent_modify (c : κ) (v : Value) : ∀ (l : List (κ × Value)) (n j : Nat) (u : Value), ix l c = some (j, u) → (ent kv n l).modify j (fun e => { e with key := kv c, val := v }) = ent kv n (put l c v) ∧ (put l c v).length = l.length
  | x :: l, n, j, u, h => by
    rw [ix] at h
    rw [put]
    split at h
    · rename_i h1
      cases h
      rw [if_pos h1]
      exact ⟨rfl, rfl⟩
    · rename_i h1
      rw [if_neg h1]
      cases hx : ix l c with
      | none => rw [hx] at h; cases h
      | some p =>
        rw [hx] at h
        cases h
        obtain ⟨e1, e2⟩ := ent_modify c v l (n + 1) p.1 p.2 hx
        refine ⟨?_, by rw [List.length_cons, e2, List.length_cons]⟩
        rw [ent, ent, ← e1]
        rfl
theorem heap_set_obj {w : World} {r : Nat} (o : Obj) (hr : r < w.heap.size) : ({ w with heap := w.heap.setIfInBounds r o } : World).heap[r]? = some o ∧ w.grownBy { w with heap := w.heap.setIfInBounds r o } (some r) := by
  refine ⟨by simp [hr], rfl, rfl, rfl, by simp, fun k hk hne => ?_⟩
  have : ¬ r = k := fun e => hne (by rw [e])
  simp [Array.getElem?_setIfInBounds, this]
/-- A store. -/
theorem run_mapUpdate {mt kt vt : TypeId} (hk : KeyTy P kt kv) (hm : P.underlying mt = some (.map kt vt)) (c : κ) (v : Value) (r : Nat) (l : List (κ × Value)) (w : World) (hb : MB kv w r l) :
    ∃ w', (Instr.mapUpdate mt (.map (some r)) (kv c) v).run P w = .ok () w' ∧ w' = { w with heap := w.heap.setIfInBounds r (.map (ent kv 0 (put l c v)).toArray (put l c v).length) } ∧ MB kv w' r (put l c v) ∧ w.grownBy w' (some r) := by
  have hg := MapKept.run_getObj_map (P := P) hb
  have hf := run_findKey hk c w l
  have hst := MapKept.run_setObj_map (P := P) (.map (ent kv 0 (put l c v)).toArray (put l c v).length) hb
  obtain ⟨h1, h2⟩ := heap_set_obj (.map (ent kv 0 (put l c v)).toArray (put l c v).length) hb.lt
  refine ⟨_, ?_, rfl, h1, h2⟩
  cases hx : ix l c with
  | none =>
    rw [hx] at hf
    have hp := put_new l c v (ix_none hx)
    have e : (ent kv 0 l).toArray.push { key := kv c, val := v, born := l.length } = (ent kv 0 (put l c v)).toArray := by
      rw [hp, ent_app, Nat.zero_add]
      simp [ent]
    have e2 : l.length + 1 = (put l c v).length := by rw [hp]; simp
    simp only [Instr.mapUpdate, Sem.run_bind, run_underlying hm, hg, hk.ok, hf, Result.andThen_ok]
    rw [e, e2]
    exact hst
  | some p =>
    rw [hx] at hf
    obtain ⟨e1, e2⟩ := ent_modify (kv := kv) c v l 0 p.1 p.2 hx
    have hget : (ent kv 0 l).toArray[p.1]? = some { key := kv c, val := p.2, born := 0 + p.1 } := by
      rw [List.getElem?_toArray, ent_get, ix_get l c p.1 p.2 hx]
      rfl
    have hky : (Instr.keyThatStays (kv c) (kv c)).run P w = .ok (kv c) w := by simp [Instr.keyThatStays, hk.same]
    have em : (ent kv 0 l).toArray.modify p.1 (fun e => { e with key := kv c, val := v }) = (ent kv 0 (put l c v)).toArray := by
      rw [← e1]
      apply Array.toList_inj.1
      simp
    simp only [Instr.mapUpdate, Sem.run_bind, run_underlying hm, hg, hk.ok, hf, Result.andThen_ok, hget, Option.map_some, Option.getD_some, hky]
    rw [em, ← e2]
    rw [e2] at hst ⊢
    exact hst
/-- A map is made. -/
theorem MB.new (kv : κ → Value) (w : World) : MB kv (w.alloc (.map #[] 0)) w.heap.size [] := by
  exact heap_alloc_new w _
end SMap
end Go.Proofs.Ytonmojinijpneaa
