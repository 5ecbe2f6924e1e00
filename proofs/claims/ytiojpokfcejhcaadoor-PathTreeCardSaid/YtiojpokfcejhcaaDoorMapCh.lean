/- Maps whose keys are choices, and whose values are 1: the look-up, and the store of a new key. -/
import Derived.Test.YtiojpokfcejhcaaDoorRows
import Derived.Test.YtiojpokfcejhcaaDoorSignRw
import Derived.Laws.StructEq
import Derived.MapKept
namespace Go.Proofs.YtiojpokfcejhcaaDoor
open Go Go.RowKit
set_option linter.unusedVariables false
set_option linter.unusedSimpArgs false
set_option maxRecDepth 100000 in
theorem run_eqCh (x y : Ch) (w : World) : (Op.equal 47 x.val y.val).run Tryd.prog w = .ok (decide (x = y)) w := by
  have u_int := Tryd.underlying3
  have a_int := Tryd.isAgg3
  have z_int := Tryd.sizeOf3
  have hS : Tryd.prog.underlying 47 = some (.struct (Tryd.prog.fieldsOf 47)) := by kernel_rfl
  have hp : Tryd.prog.stoodInHeld 47 = false := by kernel_rfl
  obtain ⟨r, c, f, s, v⟩ := x
  obtain ⟨r', c', f', s', v'⟩ := y
  unfold Op.equal Op.maxDepth Ch.val
  rw [show (10000 : Nat) = 9999 + 1 from rfl, run_equalIn_agg w 9999 47 _ _ hS hp]
  simp only [Program.fieldsOf, Tryd.underlying47]
  clear hS hp
  by_cases h0 : r = r'
  rotate_left
  · have e : decide ((⟨r, c, f, s, v⟩ : Ch) = ⟨r', c', f', s', v'⟩) = false := decide_eq_false fun h => h0 (by injection h)
    rw [e]
    go_simp
  by_cases h1 : c = c'
  rotate_left
  · have e : decide ((⟨r, c, f, s, v⟩ : Ch) = ⟨r', c', f', s', v'⟩) = false := decide_eq_false fun h => h1 (by injection h)
    rw [e]
    go_simp
  by_cases h2 : f = f'
  rotate_left
  · have e : decide ((⟨r, c, f, s, v⟩ : Ch) = ⟨r', c', f', s', v'⟩) = false := decide_eq_false fun h => h2 (by injection h)
    rw [e]
    go_simp
  by_cases h3 : s = s'
  rotate_left
  · have e : decide ((⟨r, c, f, s, v⟩ : Ch) = ⟨r', c', f', s', v'⟩) = false := decide_eq_false fun h => h3 (by injection h)
    rw [e]
    go_simp
  by_cases h4 : v = v'
  rotate_left
  · have e : decide ((⟨r, c, f, s, v⟩ : Ch) = ⟨r', c', f', s', v'⟩) = false := decide_eq_false fun h => h4 (by injection h)
    rw [e]
    go_simp
  subst h0 h1 h2 h3 h4
  rw [decide_eq_true rfl]
  go_simp
theorem int_infoM : (Tryd.prog.info? 3).map (fun i => (i.zero, i.size, i.bytes)) = some (some (.int .i64 0), 1, 8) := by kernel_rfl
def mEnt : Nat → List (Ch × Int) → List MapEntry
  | _, [] => []
  | n, x :: l => { key := x.1.val, val := .int .i64 x.2, born := n } :: mEnt (n + 1) l
theorem mEnt_app : ∀ (a b : List (Ch × Int)) (n : Nat), mEnt n (a ++ b) = mEnt n a ++ mEnt (n + a.length) b
  | [], b, n => rfl
  | y :: l, b, n => by
    rw [List.cons_append, mEnt, mEnt, mEnt_app l b (n + 1), List.length_cons, List.cons_append, show n + 1 + l.length = n + (l.length + 1) by omega]
theorem mEnt_len : ∀ (l : List (Ch × Int)) (n : Nat), (mEnt n l).length = l.length
  | [], _ => rfl
  | x :: l, n => by rw [mEnt, List.length_cons, mEnt_len l (n + 1), List.length_cons]
theorem mEnt_born : ∀ (l : List (Ch × Int)) (n m : Nat), n + l.length ≤ m → (mEnt n l).findIdx? (fun e => (e.born : Int) == (m : Int)) = none
  | [], _, _, _ => rfl
  | x :: l, n, m, h => by
    rw [List.length_cons] at h
    have hne : ((n : Int) == (m : Int)) = false := by
      have : ¬ (n : Int) = (m : Int) := by omega
      simpa using this
    rw [mEnt, List.findIdx?_cons]
    simp only [hne]
    rw [mEnt_born l (n + 1) m (by omega)]
    rfl
def offC (l : List (Ch × Int)) (c : Ch) : Prop := ∀ p ∈ l, ¬ c = p.1
theorem run_findAsking_off (c : Ch) (w : World) : ∀ (l : List (Ch × Int)) (rest : List MapEntry) (n i : Nat), offC l c → (Instr.findAsking 47 c.val (mEnt n l ++ rest) i).run Tryd.prog w = (Instr.findAsking 47 c.val rest (i + l.length)).run Tryd.prog w
  | [], rest, n, i, _ => by simp [mEnt]
  | x :: l, rest, n, i, h => by
    have hx : ¬ c = x.1 := h x List.mem_cons_self
    have ih := run_findAsking_off c w l rest (n + 1) (i + 1) fun p hm => h p (List.mem_cons_of_mem _ hm)
    rw [List.length_cons, show i + (l.length + 1) = i + 1 + l.length by omega, ← ih]
    simp [mEnt, Instr.findAsking, run_eqCh, hx, Result.andThen]
theorem findNow_struct (fs : Array Field) (k : Value) : ∀ (es : List MapEntry), es ≠ [] → Instr.findNow (.struct fs) k es 0 = none
  | [], h => absurd rfl h
  | e :: es, _ => by
    have : Instr.sameNow (.struct fs) k e.key = none := by cases k <;> cases e.key <;> rfl
    simp [Instr.findNow, this]
theorem run_findKey_off (c : Ch) (w : World) (l : List (Ch × Int)) (h : offC l c) : (Instr.findKey 47 c.val (mEnt 0 l)).run Tryd.prog w = .ok none w := by
  cases l with
  | nil => simp [Instr.findKey, run_underlying Tryd.underlying47, mEnt, Instr.findNow]
  | cons x l =>
    have := run_findAsking_off c w (x :: l) [] 0 0 h
    rw [List.append_nil] at this
    simp [Instr.findKey, run_underlying Tryd.underlying47, findNow_struct _ _ (mEnt 0 (x :: l)) (by simp [mEnt]), this]
    simp [Instr.findAsking]
theorem run_findKey_on (c : Ch) (v : Int) (w : World) (a b : List (Ch × Int)) (h : offC a c) : ∃ j, (Instr.findKey 47 c.val (mEnt 0 (a ++ (c, v) :: b))).run Tryd.prog w = .ok (some (j, .int .i64 v)) w := by
  have hne : mEnt 0 (a ++ (c, v) :: b) ≠ [] := by
    intro e
    have := congrArg List.length e
    rw [mEnt_len] at this
    simp at this
  have := run_findAsking_off c w a (mEnt (0 + a.length) ((c, v) :: b)) 0 0 h
  rw [← mEnt_app] at this
  refine ⟨0 + a.length, ?_⟩
  simp only [Instr.findKey, Sem.run_bind, run_underlying Tryd.underlying47, Result.andThen_ok, findNow_struct _ _ _ hne, this]
  simp [mEnt, Instr.findAsking, run_eqCh, Result.andThen]
set_option maxRecDepth 100000 in
theorem run_checkKey_ch (c : Ch) (b : Bool) (w : World) : (Instr.checkKey b 10000 47 c.val).run Tryd.prog w = .ok () w := by
  have u_int := Tryd.underlying3
  have a_int := Tryd.isAgg3
  have z_int := Tryd.sizeOf3
  rw [show (10000 : Nat) = 9998 + 1 + 1 from rfl]
  unfold Instr.checkKey Ch.val
  simp only [Sem.run_bind, run_underlying Tryd.underlying47, Result.andThen_ok]
  unfold Instr.checkKey
  go_simp
/-- The map's block. -/
def MBlk (w : World) (r : Nat) (l : List (Ch × Int)) : Prop := w.heap[r]? = some (.map (mEnt 0 l).toArray l.length)
theorem MBlk.lt {w : World} {r : Nat} {l : List (Ch × Int)} (h : MBlk w r l) : r < w.heap.size := (Array.getElem?_eq_some_iff.1 h).1
theorem MBlk.below {w w' : World} {B r : Nat} {l : List (Ch × Int)} (h : MBlk w r l) (hb : Below B w w') (hr : r < B) : MBlk w' r l := (hb.block r hr).trans h
theorem MBlk.far {w : World} {r : Nat} {l : List (Ch × Int)} (h : MBlk w r l) {p : Addr} (hp : r ≠ p.block) (u : Value) : MBlk (w.setCell p u) r l := (Below.heap_setCell w p u r hp).trans h
theorem MBlk.alloc {w : World} {r : Nat} {l : List (Ch × Int)} (h : MBlk w r l) (o : Obj) : MBlk (w.alloc o) r l := (Below.heap_alloc w o r h.lt).trans h
theorem run_lookup_off {mt : TypeId} (hm : Tryd.prog.underlying mt = some (.map 47 3)) (c : Ch) (r : Nat) (l : List (Ch × Int)) (w : World) (hb : MBlk w r l) (h : offC l c) :
    (Instr.lookup mt (.map (some r)) c.val false).run Tryd.prog w = .ok (.int .i64 0) w := by
  obtain ⟨i0, hi0, hz0, hz1, hz2⟩ := info_parts int_infoM
  have hg := MapKept.run_getObj_map (P := Tryd.prog) hb
  have hj := run_findKey_off c w l h
  simp [Instr.lookup, run_underlying hm, hg, run_checkKey_ch, hj, Result.andThen, zeroValue, typeInfo, hi0, hz0]
theorem run_lookup_on {mt : TypeId} (hm : Tryd.prog.underlying mt = some (.map 47 3)) (c : Ch) (v : Int) (r : Nat) (a b : List (Ch × Int)) (w : World) (hb : MBlk w r (a ++ (c, v) :: b)) (h : offC a c) :
    (Instr.lookup mt (.map (some r)) c.val false).run Tryd.prog w = .ok (.int .i64 v) w := by
  have hg := MapKept.run_getObj_map (P := Tryd.prog) hb
  obtain ⟨j, hj⟩ := run_findKey_on c v w a b h
  simp [Instr.lookup, run_underlying hm, hg, run_checkKey_ch, hj, Result.andThen]
theorem heap_set_obj {w : World} {r : Nat} (o : Obj) (hr : r < w.heap.size) : ({ w with heap := w.heap.setIfInBounds r o } : World).heap[r]? = some o ∧ w.grownBy { w with heap := w.heap.setIfInBounds r o } (some r) := by
  refine ⟨by simp [hr], rfl, rfl, rfl, by simp, fun k hk hne => ?_⟩
  have : ¬ r = k := fun e => hne (by rw [e])
  simp [Array.getElem?_setIfInBounds, this]
theorem run_mapEntry_new {mt : TypeId} (hm : Tryd.prog.underlying mt = some (.map 47 3)) (c : Ch) (r : Nat) (l : List (Ch × Int)) (w : World) (hb : MBlk w r l) (h : offC l c) :
    ∃ w', (Instr.mapEntry mt (.map (some r)) c.val).run Tryd.prog w = .ok (.tuple #[.int .i64 0, .int .i64 l.length]) w' ∧ MBlk w' r (l ++ [(c, 0)]) ∧ w.grownBy w' (some r) := by
  obtain ⟨i0, hi0, hz0, hz1, hz2⟩ := info_parts int_infoM
  have hg := MapKept.run_getObj_map (P := Tryd.prog) hb
  have hj := run_findKey_off c w l h
  have hst := MapKept.run_setObj_map (P := Tryd.prog) (.map (mEnt 0 l ++ [({ key := c.val, val := .int .i64 0, born := l.length } : MapEntry)]).toArray (l.length + 1)) hb
  obtain ⟨h1, h2⟩ := heap_set_obj (.map (mEnt 0 l ++ [({ key := c.val, val := .int .i64 0, born := l.length } : MapEntry)]).toArray (l.length + 1)) hb.lt
  refine ⟨_, ?_, ?_, h2⟩
  · simp [Instr.mapEntry, run_underlying hm, hg, run_checkKey_ch, hj, Result.andThen, zeroValue, typeInfo, hi0, hz0, hst, goInt]
  · unfold MBlk
    rw [h1, mEnt_app, List.length_append, Nat.zero_add]
    rfl
theorem run_entryStore_new {mt : TypeId} (c : Ch) (r : Nat) (l : List (Ch × Int)) (w : World) (hb : MBlk w r (l ++ [(c, 0)])) :
    ∃ w', (Instr.entryStore mt (.map (some r)) (.int .i64 l.length) (.int .i64 1)).run Tryd.prog w = .ok () w' ∧ MBlk w' r (l ++ [(c, 1)]) ∧ w.grownBy w' (some r) := by
  have hg := MapKept.run_getObj_map (P := Tryd.prog) hb
  have hst := MapKept.run_setObj_map (P := Tryd.prog) (.map (mEnt 0 (l ++ [(c, 1)])).toArray (l ++ [(c, 1)]).length) hb
  obtain ⟨h1, h2⟩ := heap_set_obj (.map (mEnt 0 (l ++ [(c, 1)])).toArray (l ++ [(c, 1)]).length) hb.lt
  have hfi : (mEnt 0 (l ++ [(c, 0)])).findIdx? (fun e => (e.born : Int) == (l.length : Int)) = some l.length := by
    rw [mEnt_app, List.findIdx?_append, mEnt_born l 0 l.length (by omega)]
    simp [mEnt, List.findIdx?_cons, mEnt_len]
  have hmod : (mEnt 0 (l ++ [(c, 0)])).modify l.length (fun e => { e with val := .int .i64 1 }) = mEnt 0 (l ++ [(c, 1)]) := by
    rw [mEnt_app, mEnt_app]
    have e : l.length = (mEnt 0 l).length + 0 := by rw [mEnt_len]; rfl
    apply List.ext_getElem?
    intro k
    rw [List.getElem?_modify]
    by_cases hk : k < l.length
    · rw [List.getElem?_append_left (by rw [mEnt_len]; exact hk), List.getElem?_append_left (by rw [mEnt_len]; exact hk)]
      have : ¬ l.length = k := by omega
      simp [this]
    · rw [List.getElem?_append_right (by rw [mEnt_len]; omega), List.getElem?_append_right (by rw [mEnt_len]; omega), mEnt_len]
      by_cases hk2 : k = l.length
      · subst hk2
        simp [mEnt]
      · have h3 : k - l.length = (k - l.length - 1) + 1 := by omega
        rw [h3]
        simp [mEnt]
  refine ⟨_, ?_, ?_, h2⟩
  · have ha : (asIntOf (.int .i64 (l.length : Int))).run Tryd.prog w = .ok (IntKind.i64, (l.length : Int)) w := by simp [asIntOf]
    rw [List.length_append, List.length_singleton] at hst
    simp [Instr.entryStore, hg, asInt, Result.andThen, ha, hfi, hmod]
    simpa using hst
  · unfold MBlk
    rw [h1]
end Go.Proofs.YtiojpokfcejhcaaDoor
