/- The groups of a split are blocks of the sorted row. No program's text. -/
import Derived.Test.YtgiibknfkphkgaaDoorRows
import Derived.Test.YtgiibknfkphkgaaDoorSpL
import Derived.Test.YtgiibknfkphkgaaDoorGrpP
namespace Go.Proofs.YtgiibknfkphkgaaDoor
open Go Go.RowKit Go.Proofs.YtgiibknfkphkgaaDoor.Grp
set_option linter.unusedVariables false
set_option linter.unusedSimpArgs false
namespace Sp
theorem ask_pw (q : List (Int × Int)) (l : List Int) : ∀ i, (askL q l i).Pairwise (fun x y => x.n ≠ y.n)
  | 0 => List.Pairwise.nil
  | i + 1 => by
    rw [askL, List.pairwise_append]
    refine ⟨ask_pw q l i, ?_, fun x hx y hy => ?_⟩
    · split
      · exact List.pairwise_singleton _ _
      · exact List.Pairwise.nil
    · obtain ⟨j, hj, _, rfl⟩ := ask_mem2 i x hx
      split at hy
      · rw [List.mem_singleton.1 hy]
        simp only
        omega
      · cases hy
/-- Those who ask, sorted: each is ahead of all that come behind it. -/
theorem ask_lt {q : List (Int × Int)} {l : List Int} {n : Nat} {L : List Ak} (hp : L.Perm (askL q l n)) (hs : Srt L) : L.Pairwise ltA := by
  have h1 := srt_pw hs
  have h2 : L.Pairwise (fun x y => x.n ≠ y.n) := (hp.pairwise_iff (fun {x y} (h : x.n ≠ y.n) => fun e => h e.symm)).2 (ask_pw q l n)
  exact (h1.and h2).imp fun {x y} h => by
    obtain ⟨h3, h4⟩ := h
    unfold ltA at h3 ⊢
    omega
def hdC (p : List Ak) : Int := (p.getD 0 default).c
def blkP (p : List Ak) : Int × List Int := (hdC p, p.map Ak.r)
structure Blocks (L : List Ak) (P : List (List Ak)) : Prop where
  flat : P.flatten = L
  ne : ∀ p ∈ P, p ≠ []
  col : ∀ p ∈ P, ∀ x ∈ p, x.c = hdC p
  up : P.Pairwise (fun p p' => hdC p < hdC p')
theorem hdC_snoc {p : List Ak} (h : p ≠ []) (x : Ak) : hdC (p ++ [x]) = hdC p := by
  cases p with
  | nil => exact absurd rfl h
  | cons y p => rfl
theorem hdC_mem {p : List Ak} (h : p ≠ []) : ∃ y ∈ p, y.c = hdC p := by
  cases p with
  | nil => exact absurd rfl h
  | cons y p => exact ⟨y, List.mem_cons_self, rfl⟩
theorem blocks_snoc {L : List Ak} {P : List (List Ak)} {x : Ak} (h : Blocks L P) (hx : ∀ y ∈ L, ltA y x) : ∃ P', Blocks (L ++ [x]) P' ∧ grpS (P.map blkP) x = P'.map blkP := by
  have mem_L : ∀ p ∈ P, ∀ y ∈ p, y ∈ L := fun p hp y hy => by rw [← h.flat]; exact List.mem_flatten.2 ⟨p, hp, hy⟩
  rcases List.eq_nil_or_concat P with rfl | ⟨Q, p, hQ⟩
  · have hL : L = [] := h.flat.symm
    subst hL
    exact ⟨[[x]], ⟨rfl, fun p hp => by rw [List.mem_singleton.1 hp]; simp, fun p hp y hy => by rw [List.mem_singleton.1 hp] at hy ⊢; rw [List.mem_singleton.1 hy]; rfl, List.pairwise_singleton _ _⟩, rfl⟩
  · rw [List.concat_eq_append] at hQ
    subst hQ
    have hpm : p ∈ Q ++ [p] := List.mem_append.2 (.inr (List.mem_singleton.2 rfl))
    have hpn := h.ne p hpm
    have hup := List.pairwise_append.1 h.up
    have hge : ∀ p' ∈ Q ++ [p], hdC p' ≤ x.c := fun p' hp' => by
      obtain ⟨y, hy, e⟩ := hdC_mem (h.ne p' hp')
      have := hx y (mem_L p' hp' y hy)
      unfold ltA at this
      omega
    have hg : grpS ((Q ++ [p]).map blkP) x = if hdC p = x.c then Q.map blkP ++ [(hdC p, p.map Ak.r ++ [x.r])] else (Q ++ [p]).map blkP ++ [(x.c, [x.r])] := by
      unfold grpS
      rw [List.map_append, List.map_singleton, List.getLast?_concat, List.dropLast_concat]
      rfl
    rw [hg]
    by_cases hc : hdC p = x.c
    · rw [if_pos hc]
      refine ⟨Q ++ [p ++ [x]], ⟨?_, fun p' hp' => ?_, fun p' hp' y hy => ?_, ?_⟩, ?_⟩
      · rw [← h.flat]
        simp
      · rcases List.mem_append.1 hp' with h1 | h1
        · exact h.ne p' (List.mem_append.2 (.inl h1))
        · rw [List.mem_singleton.1 h1]; simp
      · rcases List.mem_append.1 hp' with h1 | h1
        · exact h.col p' (List.mem_append.2 (.inl h1)) y hy
        · rw [List.mem_singleton.1 h1] at hy ⊢
          rw [hdC_snoc hpn]
          rcases List.mem_append.1 hy with h2 | h2
          · exact h.col p hpm y h2
          · rw [List.mem_singleton.1 h2, hc]
      · refine List.pairwise_append.2 ⟨hup.1, List.pairwise_singleton _ _, fun a ha b hb => ?_⟩
        rw [List.mem_singleton.1 hb, hdC_snoc hpn]
        exact hup.2.2 a ha p (List.mem_singleton.2 rfl)
      · simp [blkP, hdC_snoc hpn]
    · rw [if_neg hc]
      refine ⟨Q ++ [p] ++ [[x]], ⟨?_, fun p' hp' => ?_, fun p' hp' y hy => ?_, ?_⟩, ?_⟩
      · rw [← h.flat]
        simp
      · rcases List.mem_append.1 hp' with h1 | h1
        · exact h.ne p' h1
        · rw [List.mem_singleton.1 h1]; simp
      · rcases List.mem_append.1 hp' with h1 | h1
        · exact h.col p' h1 y hy
        · rw [List.mem_singleton.1 h1] at hy ⊢
          rw [List.mem_singleton.1 hy]
          rfl
      · refine List.pairwise_append.2 ⟨h.up, List.pairwise_singleton _ _, fun a ha b hb => ?_⟩
        rw [List.mem_singleton.1 hb]
        show hdC a < x.c
        rcases List.mem_append.1 ha with h1 | h1
        · have h2 := hup.2.2 a h1 p (List.mem_singleton.2 rfl)
          have h3 := hge p hpm
          omega
        · rw [List.mem_singleton.1 h1]
          have h3 := hge p hpm
          omega
      · simp [blkP]
        rfl
theorem blocks_of {L : List Ak} (h : L.Pairwise ltA) : ∀ i, i ≤ L.length → ∃ P, Blocks (L.take i) P ∧ grpN L i = P.map blkP
  | 0, _ => ⟨[], ⟨by simp, (fun p hp => by cases hp), (fun p hp => by cases hp), List.Pairwise.nil⟩, by simp [grpN]⟩
  | i + 1, hi => by
    obtain ⟨P, hP, e⟩ := blocks_of h i (by omega)
    have hlt : i < L.length := by omega
    have ht : L.take (i + 1) = L.take i ++ [L[i]] := List.take_succ_eq_append_getElem hlt
    have hx : ∀ y ∈ L.take i, ltA y L[i] := fun y hy => by
      have h2 : (L.take (i + 1)).Pairwise ltA := h.sublist (List.take_sublist _ _)
      rw [ht, List.pairwise_append] at h2
      exact h2.2.2 y hy _ (List.mem_singleton.2 rfl)
    obtain ⟨P', h1, h2⟩ := blocks_snoc hP hx
    exact ⟨P', by rw [ht]; exact h1, by rw [grpN_succ hlt, e, h2]⟩
/-- What the groups of a split are. -/
theorem split_blocks {q : List (Int × Int)} {l : List Int} {n : Nat} {L : List Ak} (hp : L.Perm (askL q l n)) (hs : Srt L) : ∃ P, Blocks L P ∧ grpN L L.length = P.map blkP ∧ ∀ p ∈ P, p.Pairwise ltA := by
  have h := ask_lt hp hs
  obtain ⟨P, h1, h2⟩ := blocks_of h L.length (Nat.le_refl _)
  rw [List.take_length] at h1
  exact ⟨P, h1, h2, fun p hp => h.sublist (by rw [← h1.flat]; exact List.sublist_flatten_of_mem hp)⟩
/-- Each group may be. -/
theorem blk_may {q : List (Int × Int)} {l : List Int} {L : List Ak} {P : List (List Ak)} (hm : mayL l) (hn : q.length = l.length) (hp : L.Perm (askL q l q.length)) (hb : Blocks L P) (hl : ∀ p ∈ P, p.Pairwise ltA) {p : List Ak} (h : p ∈ P) : mayL (p.map Ak.r) := by
  have hsub : p.Sublist L := by rw [← hb.flat]; exact List.sublist_flatten_of_mem h
  have hmem : ∀ x ∈ p, ∃ j : Nat, j < l.length ∧ x = ⟨(q.getD j (0, 0)).1, (q.getD j (0, 0)).2, j, l.getD j 0⟩ := fun x hx => by
    obtain ⟨j, hj, _, e⟩ := ask_mem2 q.length x (hp.mem_iff.1 (hsub.subset hx))
    exact ⟨j, by omega, e⟩
  have hlen : p.length ≤ q.length := Nat.le_trans hsub.length_le (by rw [hp.length_eq]; exact askL_len q l q.length)
  have hpos : 0 < p.length := List.length_pos_iff.2 (hb.ne p h)
  refine ⟨by rw [List.length_map]; omega, by rw [List.length_map]; have := hm.2.1; omega, fun z hz => ?_, ?_⟩
  · obtain ⟨x, hx, rfl⟩ := List.mem_map.1 hz
    obtain ⟨j, hj, rfl⟩ := hmem x hx
    exact hm.2.2.1 _ (getD_mem hj)
  · rw [List.Nodup, List.pairwise_map]
    refine (hl p h).imp_of_mem fun {x y} hx hy hlt e => ?_
    obtain ⟨i, hi, rfl⟩ := hmem x hx
    obtain ⟨j, hj, rfl⟩ := hmem y hy
    have e : l.getD i 0 = l.getD j 0 := e
    rw [List.getD_eq_getElem?_getD, List.getD_eq_getElem?_getD, List.getElem?_eq_getElem hi, List.getElem?_eq_getElem hj] at e
    have := (List.getElem?_inj hi hm.2.2.2 (j := j)).1 (by rw [List.getElem?_eq_getElem hi, List.getElem?_eq_getElem hj]; exact congrArg some e)
    subst this
    unfold ltA at hlt
    omega
def cntP (P : List (List Ak)) (i : Nat) : Nat := ((P.take i).flatten).length
theorem cntP_succ {P : List (List Ak)} {i : Nat} (h : i < P.length) : cntP P (i + 1) = cntP P i + P[i].length := by
  unfold cntP
  rw [List.take_succ_eq_append_getElem h, List.flatten_append, List.length_append]
  simp
theorem cntP_all {L : List Ak} {P : List (List Ak)} (h : Blocks L P) : cntP P P.length = L.length := by
  unfold cntP
  rw [List.take_length, h.flat]
theorem flat_len : ∀ P : List (List Ak), (∀ p ∈ P, p ≠ []) → P.length ≤ P.flatten.length
  | [], _ => Nat.le_refl _
  | p :: P, h => by
    have h1 := flat_len P (fun p' hp' => h p' (List.mem_cons_of_mem _ hp'))
    have h2 := List.length_pos_iff.2 (h p List.mem_cons_self)
    rw [List.flatten_cons, List.length_append, List.length_cons]
    omega
theorem cntP_le (P : List (List Ak)) {i : Nat} (h : i ≤ P.length) : cntP P i ≤ cntP P P.length := by
  unfold cntP
  rw [List.take_length]
  have e : P.flatten = (P.take i).flatten ++ (P.drop i).flatten := by rw [← List.flatten_append, List.take_append_drop]
  rw [e, List.length_append]
  omega
theorem ask_mono (q : List (Int × Int)) (l : List Int) {i : Nat} : ∀ {j : Nat}, i ≤ j → (askL q l i).length ≤ (askL q l j).length
  | 0, h => by rw [show i = 0 by omega]; exact Nat.le_refl _
  | j + 1, h => by
    rcases Nat.lt_or_ge j i with h1 | h1
    · rw [show i = j + 1 by omega]; exact Nat.le_refl _
    · have := ask_mono q l h1
      rw [askL, List.length_append]
      omega
end Sp
end Go.Proofs.YtgiibknfkphkgaaDoor
