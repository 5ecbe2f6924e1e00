/- What is left of a queue: by channels, in order. No program's text. -/
import Derived.Test.YtonmojinijpneaaRows
import Derived.Test.YtonmojinijpneaaGround
namespace Go.Proofs.Ytonmojinijpneaa
open Go Go.RowKit Go.Lib
set_option linter.unusedVariables false
set_option linter.unusedSimpArgs false
namespace Qu
theorem bl_irr : ∀ x : List UInt8, Op.bytesLess x x = false
  | [] => rfl
  | a :: x => by
    have h : ¬ a < a := by rw [UInt8.lt_iff_toNat_lt]; omega
    simp [Op.bytesLess, bl_irr x, h]
theorem bl_trans : ∀ x y z : List UInt8, Op.bytesLess x y = true → Op.bytesLess y z = true → Op.bytesLess x z = true
  | _, _, [], _, h2 => by simp [Op.bytesLess] at h2
  | _, [], _ :: _, h1, _ => by simp [Op.bytesLess] at h1
  | [], _ :: _, _ :: _, _, _ => rfl
  | a :: x, b :: y, c :: z, h1, h2 => by
    simp only [Op.bytesLess, Bool.or_eq_true, Bool.and_eq_true, decide_eq_true_eq, beq_iff_eq] at *
    rcases h1 with h1 | ⟨rfl, h1⟩
    · rcases h2 with h2 | ⟨rfl, h2⟩
      · left; rw [UInt8.lt_iff_toNat_lt] at *; omega
      · exact .inl h1
    · rcases h2 with h2 | ⟨rfl, h2⟩
      · exact .inl h2
      · exact .inr ⟨rfl, bl_trans x y z h1 h2⟩
theorem bl_tri : ∀ x y : List UInt8, Op.bytesLess x y = false → Op.bytesLess y x = false → x = y
  | [], [], _, _ => rfl
  | [], _ :: _, h1, _ => by simp [Op.bytesLess] at h1
  | _ :: _, [], _, h2 => by simp [Op.bytesLess] at h2
  | a :: x, b :: y, h1, h2 => by
    simp only [Op.bytesLess, Bool.or_eq_false_iff, Bool.and_eq_false_iff, decide_eq_false_iff_not, beq_eq_false_iff_ne] at *
    have e : a = b := by
      apply UInt8.toNat_inj.1
      have := h1.1; have := h2.1
      rw [UInt8.lt_iff_toNat_lt] at *
      omega
    subst e
    have h3 : Op.bytesLess x y = false := by rcases h1.2 with h | h; exact absurd rfl h; exact h
    have h4 : Op.bytesLess y x = false := by rcases h2.2 with h | h; exact absurd rfl h; exact h
    rw [bl_tri x y h3 h4]
def kLess (a b : ByteArray) : Bool := Op.bytesLess a.toList b.toList
theorem kLess_tri {a b : ByteArray} (h1 : kLess a b = false) (h2 : kLess b a = false) : a = b := by
  have e := bl_tri _ _ h1 h2
  rw [ByteArray.toList_eq, ByteArray.toList_eq] at e
  exact ByteArray.ext (Array.toList_inj.1 e)
/-- Is a channel ahead of another one? -/
def chLt (a b : Chan) : Prop := kLess a.key b.key = true ∨ (a.key = b.key ∧ (a.fr < b.fr ∨ (a.fr = b.fr ∧ a.to < b.to)))
instance (a b : Chan) : Decidable (chLt a b) := by unfold chLt; infer_instance
theorem chLt_irr (a : Chan) : ¬ chLt a a := by
  unfold chLt kLess
  rw [bl_irr]
  simp
theorem chLt_trans {a b c : Chan} (h1 : chLt a b) (h2 : chLt b c) : chLt a c := by
  unfold chLt at *
  rcases h1 with h1 | ⟨e1, h1⟩
  · rcases h2 with h2 | ⟨e2, h2⟩
    · exact .inl (bl_trans _ _ _ h1 h2)
    · rw [e2] at h1; exact .inl h1
  · rcases h2 with h2 | ⟨e2, h2⟩
    · rw [← e1] at h2; exact .inl h2
    · exact .inr ⟨e1.trans e2, by omega⟩
theorem chLt_tri {a b : Chan} (h1 : ¬ chLt a b) (h2 : ¬ chLt b a) : a = b := by
  unfold chLt at *
  have k1 : kLess a.key b.key = false := Bool.eq_false_iff.2 fun h => h1 (.inl h)
  have k2 : kLess b.key a.key = false := Bool.eq_false_iff.2 fun h => h2 (.inl h)
  have e := kLess_tri k1 k2
  have n1 : ¬ (a.fr < b.fr ∨ (a.fr = b.fr ∧ a.to < b.to)) := fun h => h1 (.inr ⟨e, h⟩)
  have n2 : ¬ (b.fr < a.fr ∨ (b.fr = a.fr ∧ b.to < a.to)) := fun h => h2 (.inr ⟨e.symm, h⟩)
  obtain ⟨ak, af, at_⟩ := a
  obtain ⟨bk, bf, bt⟩ := b
  simp only at e n1 n2
  subst e
  obtain rfl : af = bf := by omega
  obtain rfl : at_ = bt := by omega
  rfl
theorem chLt_asymm {a b : Chan} (h : chLt a b) : ¬ chLt b a := fun k => chLt_irr a (chLt_trans h k)
theorem chLt_nle {a b c : Chan} (h1 : ¬ chLt a b) (h2 : ¬ chLt b c) : ¬ chLt a c := fun h => by
  by_cases hb : chLt b a
  · exact h2 (chLt_trans hb h)
  · have := chLt_tri h1 hb
    subst this
    exact h2 h
/-- What is left: those that weren't taken, no channel behind a later one. -/
def IsLeft (l L : List Msg) : Prop := L.Pairwise (fun x y => ¬ chLt y.ch x.ch) ∧ ∀ c, L.filter (fun m => decide (m.ch = c)) = l.filter fun m => isM m c
theorem sorted_same : ∀ {A B : List Msg}, A.Pairwise (fun x y => ¬ chLt y.ch x.ch) → B.Pairwise (fun x y => ¬ chLt y.ch x.ch) → (∀ c, A.filter (fun m => decide (m.ch = c)) = B.filter fun m => decide (m.ch = c)) → A = B
  | [], [], _, _, _ => rfl
  | [], b :: B, _, _, h => by
    have := h b.ch
    simp at this
  | a :: A, [], _, _, h => by
    have := h a.ch
    simp at this
  | a :: A, b :: B, hA, hB, h => by
    have hA' := List.pairwise_cons.1 hA
    have hB' := List.pairwise_cons.1 hB
    have h1 : ¬ chLt a.ch b.ch := fun hlt => by
      have he := h a.ch
      have hm : a ∈ (b :: B).filter fun m => decide (m.ch = a.ch) := by rw [← he]; simp
      obtain ⟨hm1, hm2⟩ := List.mem_filter.1 hm
      rcases List.mem_cons.1 hm1 with e | hm1
      · rw [e] at hlt; exact chLt_irr _ hlt
      · exact hB'.1 a hm1 hlt
    have h2 : ¬ chLt b.ch a.ch := fun hlt => by
      have he := h b.ch
      have hm : b ∈ (a :: A).filter fun m => decide (m.ch = b.ch) := by rw [he]; simp
      obtain ⟨hm1, hm2⟩ := List.mem_filter.1 hm
      rcases List.mem_cons.1 hm1 with e | hm1
      · rw [e] at hlt; exact chLt_irr _ hlt
      · exact hA'.1 b hm1 hlt
    have hc := chLt_tri h1 h2
    have he := h a.ch
    rw [List.filter_cons, List.filter_cons, if_pos (by simp), if_pos (by simp [hc])] at he
    have hab : a = b := by injection he
    subst hab
    congr 1
    refine sorted_same hA'.2 hB'.2 fun c => ?_
    have hcc := h c
    rw [List.filter_cons, List.filter_cons] at hcc
    split at hcc
    · injection hcc
    · exact hcc
theorem isLeft_one {l A B : List Msg} (h : IsLeft l A) (k : IsLeft l B) : A = B := sorted_same h.1 k.1 fun c => (h.2 c).trans (k.2 c).symm
theorem isLeft_perm {l L : List Msg} (h : IsLeft l L) : L.Perm (untaken l) := by
  rw [List.perm_iff_count]
  intro m
  have e1 : (L.filter fun x => decide (x.ch = m.ch)).count m = L.count m := List.count_filter (by simp)
  have e2 : ((untaken l).filter fun x => decide (x.ch = m.ch)).count m = (untaken l).count m := List.count_filter (by simp)
  rw [← e1, ← e2, h.2]
  congr 1
  unfold untaken isM
  rw [List.filter_filter]
  apply List.filter_congr
  intro x _
  cases x.tk <;> simp
theorem isLeft_len {l L : List Msg} (h : IsLeft l L) : L.length ≤ l.length := by
  rw [(isLeft_perm h).length_eq]
  exact List.length_filter_le _ _
/-- Channel by channel. -/
def leftBy (l : List Msg) (ks : List Chan) : List Msg := ks.flatMap fun c => untaken (rowsOf l c)
theorem leftBy_app (l : List Msg) (a b : List Chan) : leftBy l (a ++ b) = leftBy l a ++ leftBy l b := by simp [leftBy]
theorem leftBy_mem {l : List Msg} {ks : List Chan} {m : Msg} (h : m ∈ leftBy l ks) : m.ch ∈ ks := by
  obtain ⟨c, hc, hm⟩ := List.mem_flatMap.1 h
  rw [untaken_row] at hm
  have := (List.mem_filter.1 hm).2
  unfold isM at this
  simp at this
  rw [this.2]
  exact hc
theorem filter_own (l : List Msg) (c d : Chan) : (untaken (rowsOf l c)).filter (fun m => decide (m.ch = d)) = if c = d then untaken (rowsOf l c) else [] := by
  rw [untaken_row]
  split
  · rename_i h
    subst h
    apply List.filter_eq_self.2
    intro m hm
    have := (List.mem_filter.1 hm).2
    unfold isM at this
    simp at this
    simp [this.2]
  · rename_i h
    apply List.filter_eq_nil_iff.2
    intro m hm
    have := (List.mem_filter.1 hm).2
    unfold isM at this
    simp at this
    simp [this.2, h]
theorem leftBy_filter (l : List Msg) (d : Chan) : ∀ (ks : List Chan), ks.Nodup → (leftBy l ks).filter (fun m => decide (m.ch = d)) = if d ∈ ks then untaken (rowsOf l d) else []
  | [], _ => by simp [leftBy]
  | c :: ks, h => by
    have h' := List.nodup_cons.1 h
    rw [show leftBy l (c :: ks) = untaken (rowsOf l c) ++ leftBy l ks from by simp [leftBy], List.filter_append, filter_own, leftBy_filter l d ks h'.2]
    by_cases e : c = d
    · subst e
      rw [if_pos rfl, if_neg h'.1, List.append_nil, if_pos List.mem_cons_self]
    · rw [if_neg e, List.nil_append]
      by_cases hm : d ∈ ks
      · rw [if_pos hm, if_pos (List.mem_cons_of_mem _ hm)]
      · rw [if_neg hm, if_neg (fun h => by rcases List.mem_cons.1 h with h | h; exact e h.symm; exact hm h)]
theorem isLeft_by {l : List Msg} {ks : List Chan} (hs : ks.Pairwise chLt) (hm : ∀ c, c ∈ ks ↔ rowsOf l c ≠ []) : IsLeft l (leftBy l ks) := by
  have hnd : ks.Nodup := hs.imp fun {a b} h e => by rw [e] at h; exact chLt_irr _ h
  refine ⟨?_, fun c => ?_⟩
  · clear hm hnd
    induction ks with
    | nil => simp [leftBy]
    | cons c ks ih =>
      have hs' := List.pairwise_cons.1 hs
      rw [show leftBy l (c :: ks) = untaken (rowsOf l c) ++ leftBy l ks from by simp [leftBy], List.pairwise_append]
      have hin : ∀ m ∈ untaken (rowsOf l c), m.ch = c := fun m hm => by
        rw [untaken_row] at hm
        have := (List.mem_filter.1 hm).2
        unfold isM at this
        simp at this
        exact this.2
      refine ⟨?_, ih hs'.2, fun x hx y hy => ?_⟩
      · rw [List.pairwise_iff_forall_sublist]
        intro x y hxy
        have hx := hin x (hxy.subset (by simp))
        have hy := hin y (hxy.subset (by simp))
        rw [hx, hy]
        exact chLt_irr _
      · rw [hin x hx]
        exact chLt_asymm (hs'.1 _ (leftBy_mem hy))
  · rw [leftBy_filter l c ks hnd, ← untaken_row]
    by_cases h : c ∈ ks
    · rw [if_pos h]
    · rw [if_neg h]
      have : rowsOf l c = [] := Classical.byContradiction fun hne => h ((hm c).2 hne)
      rw [this]
      rfl
theorem leftBy_pre {l : List Msg} {ks : List Chan} (j : Nat) : (leftBy l (ks.take j)).length ≤ (leftBy l ks).length := by
  conv => rhs; rw [← List.take_append_drop j ks, leftBy_app, List.length_append]
  omega
theorem sorted_keys {ks L' : List Chan} (hp : L'.Perm ks) (hn : ks.Nodup) (hs : ∀ i j (hij : i < j) (hj : j < L'.length), ¬ chLt L'[j] (L'[i]'(by omega))) : L'.Pairwise chLt := by
  rw [List.pairwise_iff_getElem]
  intro i j hi hj hij
  have hnd : L'.Nodup := hp.nodup_iff.2 hn
  by_cases h : chLt L'[i] L'[j]
  · exact h
  · have e := chLt_tri h (hs i j hij hj)
    have := (List.getElem_inj hnd).1 e
    omega
end Qu
end Go.Proofs.Ytonmojinijpneaa
