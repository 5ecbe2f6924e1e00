/- slices.Clone and slices.Insert at choices: a row of the call's own. -/
import Derived.Test.YtnmaclpjddafnaaRows
import Derived.Test.YtnmaclpjddafnaaSignRd
import Derived.Shelf.Spec.SlicesInsertGrow
namespace Go.Proofs.Ytnmaclpjddafnaa
open Go.RowKit
set_option linter.unusedVariables false
set_option linter.unusedSimpArgs false
theorem crow_reads {w : World} {A : Option Addr} {l : List Ch} (h : CRow w A l) : Reads w w.heap.size 5 A l.length (chs l) := by
  refine ⟨chs_len l, fun h0 => ?_⟩
  obtain ⟨a, rfl, ha, hc⟩ := h.2 h0
  refine ⟨a, rfl, ha, fun j u hj => ?_⟩
  have hjl : j < l.length * 5 := by rw [← chs_len]; exact (List.getElem?_eq_some_iff.1 hj).1
  obtain ⟨i, r, rfl, hr⟩ : ∃ i r, j = i * 5 + r ∧ r < 5 := ⟨j / 5, j % 5, by omega, by omega⟩
  have hi : i < l.length := by omega
  obtain ⟨_, h0, h1, h2, h3, h4⟩ := hc i hi
  rw [chs_at l i hi r hr] at hj
  rw [← Go.Deep.add_add]
  match r, hr, hj with
  | 0, _, hj => cases hj; exact h0
  | 1, _, hj => cases hj; exact h1
  | 2, _, hj => cases hj; exact h2
  | 3, _, hj => cases hj; exact h3
  | 4, _, hj => cases hj; exact h4
theorem crow_nil {w : World} {l : List Ch} (h : CRow w none l) : l = [] := by
  rcases Nat.eq_zero_or_pos l.length with h0 | h0
  · exact List.eq_nil_of_length_eq_zero h0
  · obtain ⟨a, ha, _⟩ := h.2 h0
    cases ha
set_option maxRecDepth 100000 in
set_option maxHeartbeats 2000000 in
theorem Clone_a (A : Option Addr) (cap : Nat) (l : List Ch) (w : World) (h : CRow w A l) (hl : l.length ≤ 1000000) :
    Calls Try.prog 15 #[.slice A l.length cap] w fun e w' => ∃ v, e = .returned v ∧ w'.ownsRow w.heap.size 24 5 v l.length (chs l) ∧ Below w.heap.size w w' := by
  obtain ⟨i0, hi0, hz0, hz1, hz2⟩ := info_parts ch_info
  have HI := hide (And.intro hi0 (And.intro hz0 (And.intro hz1 hz2)))
  clear hi0 hz0 hz1 hz2
  cases A with
  | none =>
    obtain rfl := crow_nil h
    clear h
    have q := fun (w : World) => Lib.run_eql_slice_nil (P := Try.prog) w 22 24 none 0 cap 0 0 Try.underlying22
    simp only [Option.isNone_none] at q
    go_enter Try.func15, Try.ntmps15
    go_wp2_with fail
    go_ret
    exact ⟨_, rfl, ⟨rfl, .inl ⟨rfl, rfl⟩⟩, Below.refl _ _⟩
  | some a =>
    have RD := hide (crow_reads h)
    have HO := hide (chs_one' l)
    have own0 : Hid ((w.alloc (.cells #[] 24)).ownsRow w.heap.size 24 5 (.slice (some ⟨w.heap.size, 0, none⟩) 0 0) 0 []) := hide ⟨rfl, .inr ⟨w.heap.size, 0, #[], rfl, Nat.le_refl _, heap_alloc_new w _, Nat.le_refl _, by unfold maxLen; omega, rfl, rfl⟩⟩
    clear h
    have q := fun (w : World) => Lib.run_eql_slice_nil (P := Try.prog) w 22 24 (some a) l.length cap 0 0 Try.underlying22
    simp only [Option.isNone_some] at q
    go_enter Try.func15, Try.ntmps15
    go_wp2_with (at_builtin; refine wpList_append_any _ rfl _ _ 22 rfl w.heap.size 24 i0 chZ 5 40 Try.underlying22 HI.out.1 HI.out.2.1 HI.out.2.2.1 HI.out.2.2.2 rfl (by decide) (.slice (some ⟨w.heap.size, 0, none⟩) 0 0) 0 [] rfl own0.out w.heap.size (some a) l.length cap (chs l) rfl (RD.out.alloc (Nat.le_refl _) _) HO.out ?k1 ?k2 ?k3 ?_)
    case k1 => unfold maxLen; omega
    case k2 => omega
    case k3 => simp
    intro v' w1 hown hgrow _
    have Own := hide hown
    have HG := hide hgrow
    clear hown hgrow
    go_wp2_with fail
    go_ret
    refine ⟨_, rfl, by simpa using Own.out, ?_⟩
    exact ((Below.refl _ _).alloc (Nat.le_refl _) _).grown HG.out (by simp) (fun k hk => by cases hk; exact Nat.le_refl _)
/-- copy where all is read before anything is written: elements of five cells. -/
theorem run_copy_cells5 {P : Program} (w : World) (dT sT ty elem : TypeId) (b o dLen dCap : Nat) (a : Addr) (sLen sCap n : Nat) (cs : List Value)
    (hu : P.underlying dT = some (.slice elem)) (hs : (P.info? elem).map (·.size) = some 5) (hn : n = Nat.min sLen dLen) (hcl : cs.length = n * 5)
    (hsrc : ∀ j v, cs[j]? = some v → w.cell? (a.add j) = some v) (hc : ∀ j, j < cs.length → (w.cell? ⟨b, o + j, none⟩).isSome = true) (hf : ∀ j, j < cs.length → w.frozen? ⟨b, o + j, none⟩ = false) (h1 : ∀ v ∈ cs, v.oneCell' = true) :
    (Builtin.copy_ #[dT, sT] ty #[.slice (some ⟨b, o, none⟩) dLen dCap, .slice (some a) sLen sCap]).run P w = .ok (goInt n) (w.setCells b o cs) := by
  have hl := run_loadCells_list (P := P) w a cs hsrc
  rw [hcl] at hl
  have hst := run_storeCells_cells (P := P) b o cs 0 w (by simpa using hc) (by simpa using hf) h1
  cases hq : P.info? elem with
  | none => simp [hq] at hs
  | some i =>
    have hi : i.size = 5 := by simpa [hq] using hs
    simp [Builtin.copy_, run_underlying hu, Builtin.lenOf, Builtin.firstCells, sizeOf, typeInfo, hq, hi, ← hn, hl, hst]
def setAll (cs : Array Value) : Nat → List Value → Array Value
  | _, [] => cs
  | o, v :: r => setAll (cs.setIfInBounds o v) (o + 1) r
theorem setAll_size : ∀ (vs : List Value) (cs : Array Value) (o : Nat), (setAll cs o vs).size = cs.size
  | [], _, _ => rfl
  | v :: r, cs, o => by rw [setAll, setAll_size r]; simp
theorem setAll_blk {g : Nat} {t : TypeId} : ∀ (vs : List Value) (o : Nat) {w : World} {cs : Array Value}, Blk w g t cs → Blk (w.setCells g o vs) g t (setAll cs o vs)
  | [], _, _, _, h => h
  | v :: r, o, w, cs, h => setAll_blk r (o + 1) (h.set_ o v)
theorem setAll_get : ∀ (vs : List Value) (cs : Array Value) (o k : Nat), o + vs.length ≤ cs.size → (setAll cs o vs)[k]? = if o ≤ k ∧ k < o + vs.length then vs[k - o]? else cs[k]?
  | [], cs, o, k, _ => by rw [if_neg (by simp)]; rfl
  | v :: r, cs, o, k, h => by
    rw [List.length_cons] at h
    rw [setAll, setAll_get r _ (o + 1) k (by simp; omega), List.length_cons]
    by_cases h1 : o + 1 ≤ k ∧ k < o + 1 + r.length
    · rw [if_pos h1, if_pos (by omega)]
      have e : k - o = (k - (o + 1)) + 1 := by omega
      rw [e, List.getElem?_cons_succ]
    · rw [if_neg h1]
      by_cases h2 : k = o
      · subst h2
        rw [if_pos (by omega)]
        simp [show k < cs.size by omega]
      · rw [if_neg (by omega)]
        rw [Array.getElem?_setIfInBounds, if_neg (by omega)]
theorem setAll_list (vs : List Value) (cs : Array Value) (o : Nat) (h : o + vs.length ≤ cs.size) : (setAll cs o vs).toList = cs.toList.take o ++ (vs ++ cs.toList.drop (o + vs.length)) := by
  apply List.ext_getElem?
  intro k
  rw [Array.getElem?_toList, setAll_get vs cs o k h]
  have ho : (cs.toList.take o).length = o := by simp; omega
  by_cases h1 : k < o
  · rw [if_neg (by omega), List.getElem?_append_left (by omega), List.getElem?_take, if_pos h1, Array.getElem?_toList]
  · rw [List.getElem?_append_right (by omega), ho]
    by_cases h2 : k < o + vs.length
    · rw [if_pos (by omega), List.getElem?_append_left (by omega)]
    · rw [if_neg (by omega), List.getElem?_append_right (by omega), List.getElem?_drop, Array.getElem?_toList]
      congr 1
      omega
theorem below_setCells {B g : Nat} (hBg : B ≤ g) {w0 : World} : ∀ (vs : List Value) (o : Nat) {w : World}, Below B w0 w → Below B w0 (w.setCells g o vs)
  | [], _, _, h => h
  | v :: r, o, w, h => below_setCells hBg r (o + 1) (h.setCell (p := ⟨g, o, none⟩) hBg v)
/-- Where room is: what stands from i on goes one place on, then x comes in. -/
theorem ins_room (cur : Array Value) (l : List Ch) (i c : Nat) (x : Ch) (hi : i < l.length) (hc : l.length + 1 ≤ c) (hs : cur.size = c * 5) (ht : cur.toList.take (l.length * 5) = chs l) :
    (setAll (setAll cur ((i + 1) * 5) (chs (l.drop i))) (i * 5) (chC x)).toList.take ((l.length + 1) * 5) = chs (l.take i ++ x :: l.drop i) := by
  have hd : (chs (l.drop i)).length = (l.length - i) * 5 := by rw [chs_len, List.length_drop]
  have h1 : (i + 1) * 5 + (chs (l.drop i)).length ≤ cur.size := by omega
  have h2 : i * 5 + (chC x).length ≤ (setAll cur ((i + 1) * 5) (chs (l.drop i))).size := by rw [setAll_size, chC_len]; omega
  have e0 : cur.toList.take (i * 5) = chs (l.take i) := by
    rw [← chs_take, ← ht, List.take_take]
    congr 1
    omega
  have hL : cur.toList.length = c * 5 := by simpa using hs
  rw [setAll_list _ _ _ h2, setAll_list _ _ _ h1]
  have e1 : (cur.toList.take ((i + 1) * 5) ++ (chs (l.drop i) ++ cur.toList.drop ((i + 1) * 5 + (chs (l.drop i)).length))).take (i * 5) = chs (l.take i) := by
    rw [List.take_append_of_le_length (by rw [List.length_take]; omega), List.take_take, ← e0]
    congr 1
    omega
  have e2 : (cur.toList.take ((i + 1) * 5) ++ (chs (l.drop i) ++ cur.toList.drop ((i + 1) * 5 + (chs (l.drop i)).length))).drop (i * 5 + (chC x).length) = chs (l.drop i) ++ cur.toList.drop ((i + 1) * 5 + (chs (l.drop i)).length) := by
    have : i * 5 + (chC x).length = (cur.toList.take ((i + 1) * 5)).length := by rw [List.length_take, chC_len]; omega
    rw [this, List.drop_left]
  rw [e1, e2]
  have e3 : chs (l.take i ++ x :: l.drop i) = chs (l.take i) ++ (chC x ++ chs (l.drop i)) := by rw [chs_app, chs_cons]
  rw [e3, ← List.append_assoc (chC x), ← List.append_assoc]
  have e4 : (chs (l.take i) ++ (chC x ++ chs (l.drop i))).length = (l.length + 1) * 5 := by
    rw [List.length_append, List.length_append, chs_len, chC_len, chs_len, List.length_take, List.length_drop]
    omega
  rw [← e4, List.take_left]
/-- Where none is: a new row. -/
theorem ins_grow (cur : Array Value) (l : List Ch) (i c : Nat) (x : Ch) (hi : i < l.length) (hc : l.length + 1 ≤ c) (hs : cur.size = c * 5) (ht : cur.toList.take (i * 5) = chs (l.take i)) :
    (setAll (setAll cur (i * 5) (chC x)) ((i + 1) * 5) (chs (l.drop i))).toList.take ((l.length + 1) * 5) = chs (l.take i ++ x :: l.drop i) := by
  have hd : (chs (l.drop i)).length = (l.length - i) * 5 := by rw [chs_len, List.length_drop]
  have h1 : i * 5 + (chC x).length ≤ cur.size := by rw [chC_len]; omega
  have h2 : (i + 1) * 5 + (chs (l.drop i)).length ≤ (setAll cur (i * 5) (chC x)).size := by rw [setAll_size]; omega
  have hL : cur.toList.length = c * 5 := by simpa using hs
  rw [setAll_list _ _ _ h2, setAll_list _ _ _ h1, ht]
  have e1 : (chs (l.take i) ++ (chC x ++ cur.toList.drop (i * 5 + (chC x).length))).take ((i + 1) * 5) = chs (l.take i) ++ chC x := by
    have : (i + 1) * 5 = (chs (l.take i) ++ chC x).length := by rw [List.length_append, chs_len, chC_len, List.length_take]; omega
    rw [this, ← List.append_assoc, List.take_left]
  rw [e1]
  have e3 : chs (l.take i ++ x :: l.drop i) = chs (l.take i) ++ chC x ++ chs (l.drop i) := by rw [chs_app, chs_cons, List.append_assoc]
  rw [e3, ← List.append_assoc]
  have e4 : (chs (l.take i) ++ chC x ++ chs (l.drop i)).length = (l.length + 1) * 5 := by
    rw [List.length_append, List.length_append, chs_len, chC_len, chs_len, List.length_take, List.length_drop]
    omega
  rw [← e4, List.take_left]
end Go.Proofs.Ytnmaclpjddafnaa
