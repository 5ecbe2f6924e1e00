/- The document's order, as it lies; rows of yes and no; one more behind a row. -/
import Derived.Test.YtflaikhkddjfjaaRows
import Derived.Test.YtflaikhkddjfjaaOrdH
import Derived.Laws.OwnMore
namespace Go.Proofs.Ytflaikhkddjfjaa
open Go Go.RowKit
set_option linter.unusedVariables false
set_option linter.unusedSimpArgs false
namespace Ord
noncomputable def ahB (E : Nat → Ev) (i m : Nat) : Bool := @decide (Ah E i m) (Classical.propDecidable _)
theorem ahB_iff {E : Nat → Ev} {i m : Nat} : ahB E i m = true ↔ Ah E i m := by unfold ahB; exact @decide_eq_true_iff _ (Classical.propDecidable _)
theorem bool_ext {a b : Bool} (h : a = true ↔ b = true) : a = b := by cases a <;> cases b <;> simp at h ⊢
/-- A row of yes and no. -/
def BRow (w : World) (B g len : Nat) (f : Nat → Bool) : Prop := ∃ cs : Array Value, B ≤ g ∧ Blk w g 4 cs ∧ cs.size = len ∧ ∀ m, m < len → cs[m]? = some (.bool (f m))
section
variable {w w' : World} {B g len : Nat} {f : Nat → Bool}
theorem BRow.lt (h : BRow w B g len f) : g < w.heap.size := by obtain ⟨_, _, hb, _⟩ := h; exact hb.lt
theorem BRow.ge (h : BRow w B g len f) : B ≤ g := by obtain ⟨_, h, _⟩ := h; exact h
theorem BRow.cell (h : BRow w B g len f) {m : Nat} (hm : m < len) : w.cell? ⟨g, m, none⟩ = some (.bool (f m)) := by
  obtain ⟨cs, _, hb, _, h⟩ := h
  rw [hb.cell]
  exact h m hm
theorem BRow.frozen (h : BRow w B g len f) (m : Nat) : w.frozen? ⟨g, m, none⟩ = false := by obtain ⟨_, _, hb, _⟩ := h; exact hb.frozen m
theorem BRow.set_ (h : BRow w B g len f) (k : Nat) (x : Bool) : BRow (w.setCell ⟨g, k, none⟩ (.bool x)) B g len (fun m => if m = k then x else f m) := by
  obtain ⟨cs, hB, hb, hs, hc⟩ := h
  refine ⟨cs.setIfInBounds k (.bool x), hB, hb.set_ k _, by simpa using hs, fun m hm => ?_⟩
  rw [Array.getElem?_setIfInBounds]
  show _ = some (Value.bool (if m = k then x else f m))
  by_cases e : k = m
  · subst e
    rw [if_pos rfl, if_pos (by omega), if_pos rfl]
  · rw [if_neg e, if_neg (Ne.symm e)]
    exact hc m hm
theorem BRow.of_block (h : BRow w B g len f) (e : w'.heap[g]? = w.heap[g]?) : BRow w' B g len f := by
  obtain ⟨cs, hB, hb, r⟩ := h
  exact ⟨cs, hB, e.trans hb, r⟩
theorem BRow.below (h : BRow w B g len f) {D : Nat} (hb : Below D w w') (hg : g < D) : BRow w' B g len f := h.of_block (hb.block g hg)
theorem BRow.keeps {tys : List TypeId} (h : BRow w B g len f) (k : KeepsBut tys w w') (ht : ¬ 4 ∈ tys) : BRow w' B g len f := by
  obtain ⟨cs, hB, hb, r⟩ := h
  exact ⟨cs, hB, (k.2 g _ _ (0, 0) hb ht).trans hb, r⟩
theorem BRow.to (h : BRow w B g len f) {f' : Nat → Bool} (hf : ∀ m, m < len → f m = f' m) : BRow w B g len f' := by
  obtain ⟨cs, hB, hb, hs, hc⟩ := h
  exact ⟨cs, hB, hb, hs, fun m hm => by rw [hc m hm, hf m hm]⟩
theorem BRow.more {C : Nat} (h : BRow w B g len f) (hC : C ≤ B) : BRow w C g len f := by
  obtain ⟨cs, hB, r⟩ := h
  exact ⟨cs, Nat.le_trans hC hB, r⟩
end
theorem BRow.made (w : World) (n : Nat) : BRow (w.alloc (.cells (madeCells #[Value.bool false] n) 4)) w.heap.size w.heap.size n (fun _ => false) := by
  refine ⟨madeCells #[Value.bool false] n, Nat.le_refl _, heap_alloc_new w _, size_madeCells _ _, fun m hm => ?_⟩
  rw [← Array.getElem?_toList, toList_madeCells_one, List.getElem?_replicate, if_pos hm]
theorem bool_info : (Try.prog.info? 4).map (fun i => (i.zero, i.size, i.bytes)) = some (some (.bool false), 1, 1) := by kernel_rfl
theorem bools_info : (Try.prog.info? 41).map (fun i => (i.zero, i.size, i.bytes)) = some (some (.slice none 0 0), 1, 24) := by kernel_rfl
/-- One more behind a row of one's own, of values of one cell. -/
theorem push_one (t e : TypeId) (z x : Value) (bytes : Nat) (ht : Try.prog.underlying t = some (.slice e)) (hinf : (Try.prog.info? e).map (fun i => (i.zero, i.size, i.bytes)) = some (some z, 1, bytes)) (hzs : z.cells.size = 1) (hby : bytes ≤ 64) (hx : x.oneCell' = true)
    (w : World) (B : Nat) (A : Option Addr) (cap n : Nat) (l : List Value) (h : w.ownsRow B e 1 (.slice A n cap) n l) (hB : B ≤ w.heap.size) (hl : n ≤ 1000) :
    ∃ A1 c1 w1, (Builtin.append_ #[t, t] t #[.slice A n cap, .slice (some ⟨w.heap.size, 0, none⟩) 1 1]).run Try.prog (w.alloc (.cells #[x] e)) = .ok (.slice A1 (n + 1) c1) w1 ∧
      w1.ownsRow B e 1 (.slice A1 (n + 1) c1) (n + 1) (l ++ [x]) ∧ Below B w w1 ∧ KeepsBut [e] w w1 := by
  have ba := (Below.refl w.heap.size w).alloc (Nat.le_refl _) (.cells #[x] e)
  have kb := Blk.new w e #[x]
  have ow := own_belowR h ba
  have hs1 : (w.alloc (.cells #[x] e)).heap.size = w.heap.size + 1 := by simp
  obtain ⟨Wz, hWz⟩ : ∃ x', w.alloc (.cells #[x] e) = x' := ⟨_, rfl⟩
  rw [hWz] at ba kb ow hs1 ⊢
  have hrd : Reads Wz Wz.heap.size 1 (some ⟨w.heap.size, 0, none⟩) 1 [x] := ⟨rfl, fun _ => ⟨_, rfl, kb.lt, fun j u hu => by rw [add_lit, kb.cell]; simpa using hu⟩⟩
  obtain ⟨i0, hi0, hz0', hz1, hz2⟩ := info_parts hinf
  have hby2 : (n + 1) * bytes ≤ 140737488355328 := by
    have := Nat.mul_le_mul (show n + 1 ≤ 1001 by omega) hby
    omega
  obtain ⟨v11, w11, hrun, hown, hk11, hob⟩ := run_append_any (P := Try.prog) Wz B t t e i0 _ 1 bytes ht hi0 hz0' hz1 hz2 hzs (by omega) _ _ _ ow Wz.heap.size (some ⟨w.heap.size, 0, none⟩) 1 1 _ hrd (by intro u hu; rw [List.mem_singleton.1 hu]; exact hx) (by unfold maxLen; omega) hby2 (by omega)
  obtain ⟨A11, c11, rfl⟩ := own_form hown
  exact ⟨A11, c11, w11, hrun, hown, (ba.mono hB).grown hk11 (by omega) fun g e => (own_block h e).1, (KeepsBut.of_below ba).trans (grown_keeps ow hk11)⟩
def bsl (len g : Nat) : Value := .slice (some ⟨g, 0, none⟩) len len
def ranksL (E : Nat → Ev) (k : Nat) : List Nat := (List.range k).map fun i => (E i).r
theorem ranksL_len (E : Nat → Ev) (k : Nat) : (ranksL E k).length = k := by simp [ranksL]
theorem ranksL_succ (E : Nat → Ev) (k : Nat) : ranksL E (k + 1) = ranksL E k ++ [(E k).r] := by simp [ranksL, List.range_succ]
theorem ranksL_at (E : Nat → Ev) {k i : Nat} (h : i < k) : (natI (ranksL E k)).getD i 0 = ((E i).r : Int) := by
  rw [List.getD_eq_getElem?_getD, natI, List.getElem?_map, ranksL, List.getElem?_map, List.getElem?_range h]
  rfl
structure Rf (w : World) (o B n len : Nat) (E : Nat → Ev) (gs : List Nat) : Prop where
  tab : ∃ R rc A ac, Blk w o 44 #[.int .i64 n, .slice R gs.length rc, .slice A gs.length ac] ∧ w.ownsRow B 3 1 (.slice R gs.length rc) gs.length (ints (natI (ranksL E gs.length))) ∧ w.ownsRow B 41 1 (.slice A gs.length ac) gs.length (gs.map (bsl len))
  rows : ∀ i (h : i < gs.length), BRow w B gs[i] len (ahB E i)
theorem Rf.lt {w : World} {o B n len : Nat} {E : Nat → Ev} {gs : List Nat} (h : Rf w o B n len E gs) : o < w.heap.size := by
  obtain ⟨_, _, _, _, b, _⟩ := h.tab
  exact b.lt
theorem Rf.below {w w' : World} {o B n len : Nat} {E : Nat → Ev} {gs : List Nat} (h : Rf w o B n len E gs) (hb : Below w.heap.size w w') : Rf w' o B n len E gs := by
  obtain ⟨R, rc, A, ac, b, o1, o2⟩ := h.tab
  exact ⟨⟨R, rc, A, ac, b.below hb b.lt, own_belowR o1 hb, own_belowR o2 hb⟩, fun i hi => (h.rows i hi).below hb (h.rows i hi).lt⟩
theorem Rf.row {w : World} {o B n len i : Nat} {E : Nat → Ev} {gs : List Nat} (h : Rf w o B n len E gs) (hi : i < gs.length) : ∃ R rc g ac, Blk w o 44 #[.int .i64 n, .slice R gs.length rc, .slice (some ⟨g, 0, none⟩) gs.length ac] ∧ w.cell? ⟨g, i, none⟩ = some (.slice (some ⟨gs[i], 0, none⟩) len len) ∧ BRow w B gs[i] len (ahB E i) := by
  obtain ⟨R, rc, A, ac, b, o1, o2⟩ := h.tab
  obtain ⟨g, rfl, _, _, _, _, _, hc⟩ := own_cell o2 (by omega)
  exact ⟨R, rc, g, ac, b, hc i _ (by rw [List.getElem?_map, List.getElem?_eq_getElem hi]; rfl), h.rows i hi⟩
theorem Rf.rank {w : World} {o B n len i : Nat} {E : Nat → Ev} {gs : List Nat} (h : Rf w o B n len E gs) (hi : i < gs.length) : ∃ g rc A ac, Blk w o 44 #[.int .i64 n, .slice (some ⟨g, 0, none⟩) gs.length rc, .slice A gs.length ac] ∧ w.cell? ⟨g, i, none⟩ = some (.int .i64 (E i).r) := by
  obtain ⟨R, rc, A, ac, b, o1, o2⟩ := h.tab
  obtain ⟨g, rfl, _, hc⟩ := row_at o1 (by rw [natI_len, ranksL_len]; exact hi) (by rw [natI_len, ranksL_len])
  rw [ranksL_at E hi] at hc
  exact ⟨g, rc, A, ac, b, hc⟩
theorem Rf.snoc {w : World} {o B n len k vc c1 c9 g : Nat} {E : Nat → Ev} {gs : List Nat} {V A1 a9 : Option Addr} (bo : Blk w o 44 #[.int .i64 n, .slice V k vc, .slice A1 (k + 1) c1])
    (hR : w.ownsRow B 3 1 (.slice a9 (k + 1) c9) (k + 1) (ints (natI (ranksL E k)) ++ [.int .i64 (E k).r])) (hA : w.ownsRow B 41 1 (.slice A1 (k + 1) c1) (k + 1) (gs.map (bsl len) ++ [bsl len g]))
    (hrows : ∀ i (h : i < gs.length), BRow w B gs[i] len (ahB E i)) (hg : BRow w B g len (ahB E k)) (hk : gs.length = k) :
    Rf (w.setCell ⟨o, 1, none⟩ (.slice a9 (k + 1) c9)) o B n len E (gs ++ [g]) := by
  have kk := keeps_set (p := ⟨o, 1, none⟩) bo (.slice a9 (k + 1) c9)
  subst hk
  refine ⟨⟨a9, c9, A1, c1, ?_, ?_, ?_⟩, fun i hi => ?_⟩
  · rw [List.length_append, List.length_singleton]
    simpa using bo.set_ 1 (.slice a9 (gs.length + 1) c9)
  · rw [List.length_append, List.length_singleton, ranksL_succ, natI_app, ints_app]
    exact KeepsBut.own kk hR (by decide)
  · rw [List.length_append, List.length_singleton, List.map_append]
    exact KeepsBut.own kk hA (by decide)
  · by_cases hi2 : i < gs.length
    · rw [List.getElem_append_left hi2]
      exact (hrows i hi2).keeps kk (by decide)
    · have e : i = gs.length := by rw [List.length_append, List.length_singleton] at hi; omega
      subst e
      rw [List.getElem_append_right (Nat.le_refl _)]
      simp only [Nat.sub_self, List.getElem_cons_zero]
      exact hg.keeps kk (by decide)
/-- Those just ahead, as they are marked. -/
def dirF (F : Nat → Ec) (k j : Nat) (m : Nat) : Bool := decide (m < k ∧ (F m).r = (F k).r) || decide ((m : Int) ∈ (F k).af.take j)
theorem dirF_iff {n : Nat} {F : Nat → Ec} {k : Nat} (h : okTo n F (k + 1)) (m : Nat) : dirF F k (F k).af.length m = true ↔ Dir (evN F) k m := by
  unfold dirF
  rw [List.take_length, Bool.or_eq_true, decide_eq_true_eq, decide_eq_true_eq]
  obtain ⟨a1, a2, a3, a4⟩ := mayE_ev (h k (by omega))
  have hin : (m : Int) ∈ (F k).af ↔ m ∈ (evN F k).af := by
    rw [a3]
    unfold natI
    rw [List.mem_map]
    constructor
    · rintro ⟨x, hx, e⟩
      obtain rfl : x = m := by omega
      exact hx
    · exact fun h => ⟨m, h, rfl⟩
  rw [hin]
  constructor
  · rintro (⟨h1, h2⟩ | h1)
    · obtain ⟨b1, _⟩ := mayE_ev (h m (by omega))
      exact ⟨h1, .inl (by rw [a1, b1] at h2; omega)⟩
    · exact ⟨a4 m h1, .inr h1⟩
  · rintro ⟨h1, h2 | h2⟩
    · obtain ⟨b1, _⟩ := mayE_ev (h m (by omega))
      exact .inl ⟨h1, by rw [a1, b1, h2]⟩
    · exact .inr h2
/-- The row, once those from j on are gone through. -/
def Part (E : Nat → Ev) (k j : Nat) (f : Nat → Bool) : Prop := ∀ m, f m = true ↔ Dir E k m ∨ ∃ k', j ≤ k' ∧ Ah E k k' ∧ Ah E k' m
theorem Part.start {E : Nat → Ev} {k : Nat} {f : Nat → Bool} (h : ∀ m, f m = true ↔ Dir E k m) : Part E k k f := fun m => (h m).trans ⟨.inl, fun h => h.elim id fun ⟨k', h1, h2, _⟩ => absurd h2.lt (by omega)⟩
theorem Part.full {E : Nat → Ev} {k : Nat} {f : Nat → Bool} (h : Part E k 0 f) (m : Nat) : f m = ahB E k m := bool_ext ((h m).trans (by
  rw [ahB_iff, Ah.iff_row]
  exact or_congr Iff.rfl ⟨fun ⟨k', _, h1, h2⟩ => ⟨k', h2.lt, h1, h2⟩, fun ⟨k', _, h1, h2⟩ => ⟨k', Nat.zero_le _, h1, h2⟩⟩))
theorem Part.at_ {E : Nat → Ev} {k j : Nat} {f : Nat → Bool} (h : Part E k (j + 1) f) : f j = true ↔ Ah E k j := (h j).trans (by
  rw [Ah.iff_row]
  exact or_congr Iff.rfl ⟨fun ⟨k', h0, h1, h2⟩ => ⟨k', by omega, h1, h2⟩, fun ⟨k', h0, h1, h2⟩ => ⟨k', by omega, h1, h2⟩⟩)
theorem Part.next {E : Nat → Ev} {k j q : Nat} {f : Nat → Bool} (h : Part E k (j + 1) f) (h0 : f j = false → q = 0) (h1 : q = j ∨ f j = false) : Part E k j (fun m => f m || (decide (m < q) && ahB E j m)) := fun m => by
  have ha := h.at_
  show (f m || (decide (m < q) && ahB E j m)) = true ↔ _
  rw [Bool.or_eq_true, Bool.and_eq_true, decide_eq_true_eq, ahB_iff, h m]
  constructor
  · rintro ((h2 | ⟨k', h2, h3, h4⟩) | ⟨h2, h3⟩)
    · exact .inl h2
    · exact .inr ⟨k', by omega, h3, h4⟩
    · have hf : f j = true := by
        cases hf : f j with
        | true => rfl
        | false => have := h0 hf; omega
      exact .inr ⟨j, Nat.le_refl _, ha.1 hf, h3⟩
  · rintro (h2 | ⟨k', h2, h3, h4⟩)
    · exact .inl (.inl h2)
    · by_cases e : k' = j
      · subst e
        have hf := ha.2 h3
        have hq : q = k' := h1.resolve_right (by rw [hf]; exact Bool.noConfusion)
        exact .inr ⟨by rw [hq]; exact h4.lt, h4⟩
      · exact .inl (.inr ⟨k', by omega, h3, h4⟩)
end Ord
end Go.Proofs.Ytflaikhkddjfjaa
