/- A message is taken: how the queue lies then. -/
import Derived.Test.YtonmojinijpneaaRows
import Derived.Test.YtonmojinijpneaaQuE
namespace Go.Proofs.Ytonmojinijpneaa
open Go Go.RowKit Go.Lib
set_option linter.unusedVariables false
set_option linter.unusedSimpArgs false
namespace Qu
/-- All blocks but those of some numbers are as they were, and so is the rest of the world. -/
structure Ch (S : List Nat) (w w' : World) : Prop where
  os : w'.os = w.os
  tape : w'.tape = w.tape
  output : w'.output = w.output
  size : w.heap.size ≤ w'.heap.size
  block : ∀ j, j < w.heap.size → ¬ j ∈ S → w'.heap[j]? = w.heap[j]?
theorem Ch.of_below {S : List Nat} {w w' : World} (h : Below w.heap.size w w') : Ch S w w' := ⟨h.os, h.tape, h.output, h.size, fun j hj _ => h.block j hj⟩
theorem Ch.of_grown {S : List Nat} {w w' : World} {g : Nat} (h : w.grownBy w' (some g)) (hg : g ∈ S) : Ch S w w' := ⟨h.os, h.tape, h.output, h.size, fun j hj hn => h.block j hj fun e => hn (by injection e with e; rw [e]; exact hg)⟩
theorem Ch.refl (S : List Nat) (w : World) : Ch S w w := ⟨rfl, rfl, rfl, Nat.le_refl _, fun _ _ _ => rfl⟩
theorem Ch.set_ {S : List Nat} (w : World) {p : Addr} (u : Value) (hp : p.block ∈ S) : Ch S w (w.setCell p u) :=
  have hb := (Below.refl 0 w).setCell (p := p) (Nat.zero_le _) u
  ⟨hb.os, hb.tape, hb.output, hb.size, fun j _ hn => Below.heap_setCell w p u j fun e => hn (e ▸ hp)⟩
theorem Ch.trans {S : List Nat} {a b c : World} (h : Ch S a b) (k : Ch S b c) : Ch S a c :=
  ⟨k.os.trans h.os, k.tape.trans h.tape, k.output.trans h.output, Nat.le_trans h.size k.size, fun j hj hn => (k.block j (Nat.lt_of_lt_of_le hj h.size) hn).trans (h.block j hj hn)⟩
theorem Ch.more {S T : List Nat} {a b : World} (h : Ch S a b) (hs : ∀ j ∈ S, j ∈ T ∨ a.heap.size ≤ j) : Ch T a b :=
  ⟨h.os, h.tape, h.output, h.size, fun j hj hn => h.block j hj fun hm => (hs j hm).elim hn (fun e => by omega)⟩
theorem Ch.below {S : List Nat} {a b : World} {B : Nat} (h : Ch S a b) (hS : ∀ j ∈ S, B ≤ j) (hB : B ≤ a.heap.size) : Below B a b :=
  ⟨h.os, h.tape, h.output, h.size, fun j hj => h.block j (by omega) fun hm => by have := hS j hm; omega⟩
theorem QSt.ch {S : List Nat} {w w' : World} {q : Nat} {L : QL} {l : List Msg} (h : QSt w q L l) (hb : Ch S w w') (hS : ∀ b ∈ S, ¬ b ∈ L.foot q) : QSt w' q L l := h.keep fun b hm => hb.block b (h.lt b hm) fun hs => hS b hs hm
theorem msgCs_took : ∀ (r : List Msg) (a : Nat) (m : Msg), r[a]? = some m → msgCs (r.modify a Msg.took) = (msgCs r).set (a * 8 + 7) (.bool true)
  | x :: r, 0, m, h => by
    show msgCs (x.took :: r) = _
    rw [msgCs, msgCs, List.set_append_left (h := by rw [msgC_len]; omega)]
    rfl
  | x :: r, a + 1, m, h => by
    show msgCs (x :: r.modify a Msg.took) = _
    rw [msgCs, msgCs, msgCs_took r a m (by simpa using h), List.set_append_right (h := by rw [msgC_len]; omega), msgC_len, show (a + 1) * 8 + 7 - 8 = a * 8 + 7 by omega]
theorem modify_same {r : List Msg} {i : Nat} {m : Msg} (h : r[i]? = some m) (ht : m.tk = true) : r.modify i Msg.took = r := by
  rw [modify_cut _ h]
  conv => rhs; rw [cut_at h]
  rw [show m.took = m by unfold Msg.took; cases m; simp at ht; subst ht; rfl]
theorem modify_len {r : List Msg} {i : Nat} : (r.modify i Msg.took).length = r.length := by simp
/-- A channel's first that is left is another one. -/
def setF (cl : List (Chan × CRow)) (c : Chan) (fi : Nat) : List (Chan × CRow) := cl.map fun p => if p.1 = c then (p.1, { p.2 with fi := fi }) else p
theorem setF_keys (cl : List (Chan × CRow)) (c : Chan) (fi : Nat) : (setF cl c fi).map (·.1) = cl.map (·.1) := by
  unfold setF
  rw [List.map_map]
  apply List.map_congr_left
  intro p _
  show (if p.1 = c then (p.1, { p.2 with fi := fi }) else p).1 = p.1
  split <;> rfl
theorem setF_gs (cl : List (Chan × CRow)) (c : Chan) (fi : Nat) : (setF cl c fi).map (·.2.g) = cl.map (·.2.g) := by
  unfold setF
  rw [List.map_map]
  apply List.map_congr_left
  intro p _
  show (if p.1 = c then (p.1, { p.2 with fi := fi }) else p).2.g = p.2.g
  split <;> rfl
theorem put_setF {l l' : List Msg} {c : Chan} {x : CRow} {fi : Nat} (ho : ∀ d, ¬ d = c → rowsOf l' d = rowsOf l d) : ∀ (cl : List (Chan × CRow)), (cl.map (·.1)).Nodup → (c, x) ∈ cl →
    SMap.put (cl.map fun p => (p.1, rowV (rowsOf l p.1) p.2)) c (rowV (rowsOf l' c) { x with fi := fi }) = (setF cl c fi).map fun p => (p.1, rowV (rowsOf l' p.1) p.2)
  | p :: cl, hn, hm => by
    have hn' := List.nodup_cons.1 hn
    have hoff : ∀ {k : List (Chan × CRow)}, ¬ c ∈ k.map (·.1) → (k.map fun p => (p.1, rowV (rowsOf l p.1) p.2)) = (setF k c fi).map fun p => (p.1, rowV (rowsOf l' p.1) p.2) := fun {k} hk => by
      unfold setF
      rw [List.map_map]
      apply List.map_congr_left
      intro y hy
      have hne : ¬ y.1 = c := fun e => hk (e ▸ List.mem_map_of_mem (f := (·.1)) hy)
      show (y.1, rowV (rowsOf l y.1) y.2) = (fun p : Chan × CRow => (p.1, rowV (rowsOf l' p.1) p.2)) (if y.1 = c then (y.1, { y.2 with fi := fi }) else y)
      rw [if_neg hne]
      show _ = (y.1, rowV (rowsOf l' y.1) y.2)
      rw [ho _ hne]
    rw [List.map_cons, SMap.put]
    by_cases hc : c = p.1
    · rw [if_pos hc]
      have hp : p = (c, x) := by
        rcases List.mem_cons.1 hm with e | e
        · exact e.symm
        · exact absurd (List.mem_map_of_mem (f := (·.1)) e) (by show ¬ c ∈ _; rw [hc]; exact hn'.1)
      have e2 := hoff (k := cl) (by rw [hc]; exact hn'.1)
      rw [e2]
      subst hp
      show _ = (fun p : Chan × CRow => (p.1, rowV (rowsOf l' p.1) p.2)) (if c = c then (c, { x with fi := fi }) else (c, x)) :: _
      rw [if_pos rfl]
      rfl
    · rw [if_neg hc]
      have hm' : (c, x) ∈ cl := by
        rcases List.mem_cons.1 hm with e | e
        · exact absurd (by rw [← e]) hc
        · exact e
      rw [put_setF ho cl hn'.2 hm']
      show (p.1, rowV (rowsOf l p.1) p.2) :: _ = (fun p : Chan × CRow => (p.1, rowV (rowsOf l' p.1) p.2)) (if p.1 = c then (p.1, { p.2 with fi := fi }) else p) :: _
      rw [if_neg (fun e => hc e.symm)]
      show _ = (p.1, rowV (rowsOf l' p.1) p.2) :: _
      rw [ho _ (fun e => hc e.symm)]
      rfl
theorem setF_mem {cl : List (Chan × CRow)} {c : Chan} {fi : Nat} {p : Chan × CRow} (h : p ∈ setF cl c fi) : (p.1 = c ∧ ∃ y, (c, y) ∈ cl ∧ p.2 = { y with fi := fi }) ∨ (¬ p.1 = c ∧ p ∈ cl) := by
  obtain ⟨y, hy, rfl⟩ := List.mem_map.1 h
  by_cases e : y.1 = c
  · rw [if_pos e]
    refine .inl ⟨e, y.2, ?_, rfl⟩
    rw [← e]
    exact hy
  · rw [if_neg e]
    exact .inr ⟨e, hy⟩
theorem nodup_row {cl : List (Chan × CRow)} (h : (cl.map (·.1)).Nodup) {c : Chan} {x y : CRow} (hx : (c, x) ∈ cl) (hy : (c, y) ∈ cl) : x = y := by
  induction cl with
  | nil => cases hx
  | cons p cl ih =>
    have h' := List.nodup_cons.1 h
    rcases List.mem_cons.1 hx with e1 | e1 <;> rcases List.mem_cons.1 hy with e2 | e2
    · rw [← e2] at e1; cases e1; rfl
    · exact absurd (List.mem_map_of_mem (f := (·.1)) e2) (by rw [← e1] at h'; exact h'.1)
    · exact absurd (List.mem_map_of_mem (f := (·.1)) e1) (by rw [← e2] at h'; exact h'.1)
    · exact ih h'.2 e1 e2
theorem nodup_inj {α β : Type} (f : α → β) : ∀ {l : List α}, (l.map f).Nodup → ∀ {a b : α}, a ∈ l → b ∈ l → f a = f b → a = b
  | x :: l, h, a, b, ha, hb, e => by
    have h' := List.nodup_cons.1 h
    rcases List.mem_cons.1 ha with e1 | ha1 <;> rcases List.mem_cons.1 hb with e2 | hb1
    · rw [e1, e2]
    · exact absurd (List.mem_map_of_mem (f := f) hb1) (by rw [← e, e1]; exact h'.1)
    · exact absurd (List.mem_map_of_mem (f := f) ha1) (by rw [e, e2]; exact h'.1)
    · exact nodup_inj f h'.2 ha1 hb1 e
theorem rows_apart {w : World} {q : Nat} {L : QL} {l : List Msg} (h : QSt w q L l) {p p' : Chan × CRow} (hp : p ∈ L.cl) (hp' : p' ∈ L.cl) (hne : ¬ p.1 = p'.1) : p.2.g ≠ p'.2.g := by
  have hf := h.fd
  unfold QL.foot at hf
  have h1 := (List.nodup_append.1 (List.nodup_cons.1 (List.nodup_cons.1 (List.nodup_cons.1 (List.nodup_cons.1 hf).2).2).2).2).1
  intro e
  have : p = p' := nodup_inj (fun p : Chan × CRow => p.2.g) h1 hp hp' e
  exact hne (by rw [this])
theorem QSt.taken {w w' : World} {q : Nat} {L : QL} {l : List Msg} (h : QSt w q L l) {i : Nat} {m : Msg} {x : CRow} {fi : Nat} (hm : l[i]? = some m) (hx : (m.ch, x) ∈ L.cl)
    (hf : fi ≤ (rowsOf l m.ch).length ∧ ∀ y ∈ (rowsOf (l.modify i Msg.took) m.ch).take fi, y.tk = true)
    (hrow : w'.ownsRow 0 33 8 (.slice (some ⟨x.g, 0, none⟩) (rowsOf l m.ch).length x.cap) (rowsOf l m.ch).length (msgCs (rowsOf (l.modify i Msg.took) m.ch)))
    (hmc : SMap.MB chV w' L.cm (SMap.put (L.cl.map fun p => (p.1, rowV (rowsOf l p.1) p.2)) m.ch (rowV (rowsOf (l.modify i Msg.took) m.ch) { x with fi := fi })))
    (hk : ∀ b ∈ L.foot q, b ≠ x.g → b ≠ L.cm → w'.heap[b]? = w.heap[b]?) : QSt w' q { L with cl := setF L.cl m.ch fi } (l.modify i Msg.took) := by
  have hoff : ∀ d, ¬ d = m.ch → rowsOf (l.modify i Msg.took) d = rowsOf l d := fun d hd => rowsOf_take_off hm (fun e => hd e.symm)
  have hlen : ∀ d, (rowsOf (l.modify i Msg.took) d).length = (rowsOf l d).length := fun d => by
    by_cases e : d = m.ch
    · rw [e, rowsOf_take_on hm]; simp
    · rw [hoff d e]
  have hfd : (({ L with cl := setF L.cl m.ch fi } : QL)).foot q = L.foot q := by
    unfold QL.foot
    rw [setF_gs]
  have hfn := h.fd
  unfold QL.foot at hfn
  have n1 := List.nodup_cons.1 hfn
  have n2 := List.nodup_cons.1 n1.2
  have n3 := List.nodup_cons.1 n2.2
  have n4 := List.nodup_cons.1 n3.2
  have n5 := List.nodup_append.1 n4.2
  have hxg : x.g ∈ L.cl.map (·.2.g) ++ L.sl.map (·.2.g) := List.mem_append_left _ (List.mem_map_of_mem (f := fun p : Chan × CRow => p.2.g) hx)
  have kq := hk q foot_q (fun e => n1.1 (by rw [e]; exact List.mem_cons_of_mem _ (List.mem_cons_of_mem _ (List.mem_cons_of_mem _ hxg)))) (fun e => n1.1 (by rw [e]; exact List.mem_cons_self))
  have kp := hk L.pm foot_p (fun e => n3.1 (by rw [e]; exact List.mem_cons_of_mem _ hxg)) (fun e => n2.1 (by rw [← e]; exact List.mem_cons_self))
  have ks := hk L.sm foot_s (fun e => n4.1 (by rw [e]; exact hxg)) (fun e => n2.1 (by rw [← e]; exact List.mem_cons_of_mem _ List.mem_cons_self))
  have krow : ∀ p ∈ L.cl, ¬ p.1 = m.ch → w'.heap[p.2.g]? = w.heap[p.2.g]? := fun p hp hne => hk _ (foot_row hp) (rows_apart h hp hx hne) (fun e => n2.1 (by rw [← e]; exact List.mem_cons_of_mem _ (List.mem_cons_of_mem _ (List.mem_append_left _ (List.mem_map_of_mem (f := fun p : Chan × CRow => p.2.g) hp)))))
  have ksr : ∀ p ∈ L.sl, w'.heap[p.2.g]? = w.heap[p.2.g]? := fun p hp => by
    have hpm : p.2.g ∈ L.sl.map (·.2.g) := List.mem_map_of_mem (f := fun p : Inb × SRow => p.2.g) hp
    exact hk _ (foot_srow hp) (fun e => n5.2.2 x.g (List.mem_map_of_mem (f := fun p : Chan × CRow => p.2.g) hx) _ hpm e.symm) (fun e => n2.1 (by rw [← e]; exact List.mem_cons_of_mem _ (List.mem_cons_of_mem _ (List.mem_append_right _ hpm))))
  have hfr : ∀ b, fromsOf (l.modify i Msg.took) b = fromsOf l b := fun b => fromsOf_take b
  refine ⟨kq.trans h.blk, ?_, kp.trans h.mp, ?_, by show ((setF L.cl m.ch fi).map (·.1)).Nodup; rw [setF_keys]; exact h.kc, h.kp, h.ks, by rw [hfd]; exact h.fd, ?_, ?_, ?_, ?_, ?_, ?_, ?_, uniq_take h.uq⟩
  · rw [put_setF hoff L.cl h.kc hx] at hmc
    exact hmc
  · have e : (L.sl.map fun p => (p.1, slV (fromsOf (l.modify i Msg.took) p.1) p.2)) = L.sl.map fun p => (p.1, slV (fromsOf l p.1) p.2) := List.map_congr_left fun p _ => by rw [hfr]
    show SMap.MB inV w' L.sm (L.sl.map fun p => (p.1, slV (fromsOf (l.modify i Msg.took) p.1) p.2))
    rw [e]
    exact ks.trans h.ms
  · intro c
    show c ∈ (setF L.cl m.ch fi).map (·.1) ↔ _
    rw [setF_keys, h.cin]
    have := hlen c
    constructor
    · intro hne e
      rw [e] at this
      exact hne (List.eq_nil_of_length_eq_zero this.symm)
    · intro hne e
      rw [e] at this
      exact hne (List.eq_nil_of_length_eq_zero this)
  · intro p hp
    rcases setF_mem hp with ⟨e, y, hy, e2⟩ | ⟨e, hp'⟩
    · obtain rfl := nodup_row h.kc hy hx
      rw [e2, e, hlen]
      exact hrow
    · rw [hoff _ e]
      exact own_heap (h.crow p hp') (krow p hp' e)
  · intro p hp
    rcases setF_mem hp with ⟨e, y, hy, e2⟩ | ⟨e, hp'⟩
    · rw [e2, e, hlen]
      exact hf
    · rw [hoff _ e]
      exact h.cfi p hp'
  · intro v
    rw [h.pin]
    congr 1
    unfold plcR
    rw [plc_take]
    cases hp : plc l v with
    | none => rfl
    | some k =>
      simp only [Option.map_some]
      have hk' : (l.modify i Msg.took).getD k m0 = if i = k then (l.getD k m0).took else l.getD k m0 := by
        rw [List.getD_eq_getElem?_getD, List.getElem?_modify, List.getD_eq_getElem?_getD, List.getElem?_eq_getElem (plc_lt hp)]
        by_cases e : i = k <;> simp [e]
      have hch : ((l.modify i Msg.took).getD k m0).ch = (l.getD k m0).ch := by rw [hk']; split <;> rfl
      have htk : ∀ c, (rowsOf ((l.modify i Msg.took).take k) c).length = (rowsOf (l.take k) c).length := fun c => by
        rw [List.take_modify]
        by_cases hik : i < k
        · have hm2 : (l.take k)[i]? = some m := by rw [List.getElem?_take, if_pos hik]; exact hm
          by_cases e : m.ch = c
          · subst e; rw [rowsOf_take_on hm2]; simp
          · rw [rowsOf_take_off hm2 e]
        · rw [List.modify_eq_self (by rw [List.length_take]; omega)]
      rw [hch, htk]
  · intro b
    rw [hfr]
    exact h.sin b
  · intro p hp
    rw [hfr]
    exact own_heap (h.srow p hp) (ksr p hp)
  · intro y hy
    rw [modify_cut _ hm] at hy
    rcases List.mem_append.1 hy with hy | hy
    · exact h.ok y (List.mem_of_mem_take hy)
    rcases List.mem_cons.1 hy with rfl | hy
    · exact h.ok m (List.mem_of_getElem? hm)
    · exact h.ok y (List.mem_of_mem_drop hy)
end Qu
end Go.Proofs.Ytonmojinijpneaa
