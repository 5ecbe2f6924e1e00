/- What is left, and what is ahead of it there. No program's text. -/
import Derived.Test.YtomladbdebfikaaRows
import Derived.Test.YtomladbdebfikaaQuXg
namespace Go.Proofs.Ytomladbdebfikaa
open Go Go.RowKit Go.Lib
set_option linter.unusedVariables false
set_option linter.unusedSimpArgs false
namespace Qu
theorem find_it {l : List Msg} (hu : Uniq l) {m : Msg} (hm : m ∈ l) : ∃ i, l[i]? = some m ∧ plc l m.who = some i ∧ findL l m.who = some m := by
  obtain ⟨i, hi⟩ := List.mem_iff_getElem?.1 hm
  have hp := plc_uniq hu hi
  refine ⟨i, hi, hp, ?_⟩
  unfold findL
  rw [hp, Option.map_some, List.getD_eq_getElem?_getD, hi]
  rfl
theorem take_zero {l : List Msg} {v : Who} (h : takeE l v = 0) : ∃ m, findL l v = some m ∧ m.tk = false ∧ (untaken (takeL l v)).length + 1 = (untaken l).length := by
  unfold takeE at h
  cases hf : findL l v with
  | none => rw [hf] at h; cases h
  | some m =>
    rw [hf] at h
    have ht : m.tk = false := by
      cases hb : m.tk with
      | false => rfl
      | true => simp [hb] at h
    refine ⟨m, rfl, ht, ?_⟩
    unfold findL at hf
    cases hp : plc l v with
    | none => rw [hp] at hf; cases hf
    | some i =>
      obtain ⟨x, hx, hw⟩ := plc_some hp
      rw [hp, Option.map_some, List.getD_eq_getElem?_getD, hx] at hf
      obtain rfl : x = m := Option.some.inj hf
      have e : takeL l v = l.modify i Msg.took := by unfold takeL; rw [hp]
      rw [e, modify_cut _ hx]
      conv => rhs; rw [cut_at hx]
      rw [untaken_app, untaken_app, List.length_append, List.length_append]
      have e1 : untaken (x.took :: l.drop (i + 1)) = untaken (l.drop (i + 1)) := by
        unfold untaken
        rw [List.filter_cons, if_neg (by simp [Msg.took])]
      have e2 : untaken (x :: l.drop (i + 1)) = x :: untaken (l.drop (i + 1)) := by
        unfold untaken
        rw [List.filter_cons, if_pos (by simp [ht])]
      rw [e1, e2, List.length_cons]
      omega
theorem take_same {l : List Msg} {v : Who} (h : takeE l v ≠ 0) : takeE l v = 2 ∧ takeL l v = l ∧ ((findL l v).isSome && !((findL l v).getD m0).tk) = false := by
  unfold takeE at *
  cases hf : findL l v with
  | none => exact ⟨rfl, take_none hf, rfl⟩
  | some m =>
    rw [hf] at h
    have ht : m.tk = true := by
      cases hb : m.tk with
      | true => rfl
      | false => simp [hb] at h
    refine ⟨by simp [ht], ?_, by simp [ht]⟩
    unfold findL at hf
    unfold takeL
    cases hp : plc l v with
    | none => rfl
    | some i =>
      obtain ⟨x, hx, hw⟩ := plc_some hp
      rw [hp, Option.map_some, List.getD_eq_getElem?_getD, hx] at hf
      obtain rfl : x = m := Option.some.inj hf
      exact modify_same hx ht
theorem send_two {l : List Msg} {m : Msg} : (sendE l m = 0 ∧ (untaken (sendL l m)).length = (untaken l).length + 1) ∨ (sendE l m = 2 ∧ sendL l m = l) := by
  unfold sendE sendL
  by_cases h : mayM m ∧ plc l m.who = none
  · left
    rw [if_pos h, if_pos h]
    have ht : m.tk = false := h.1.2.2.2.2.2.2.2.2.2
    refine ⟨rfl, ?_⟩
    rw [untaken_app, List.length_append]
    congr 1
    unfold untaken
    rw [List.filter_cons, if_pos (by simp [ht])]
    rfl
  · right
    rw [if_neg h, if_neg h]
    exact ⟨rfl, rfl⟩
theorem left_mem {l K : List Msg} (h : IsLeft l K) {m : Msg} (hm : m ∈ K) : m ∈ l ∧ m.tk = false := by
  have := (isLeft_perm h).mem_iff.1 hm
  unfold untaken at this
  obtain ⟨h1, h2⟩ := List.mem_filter.1 this
  exact ⟨h1, by simpa using h2⟩
theorem left_uniq {l K : List Msg} (hu : Uniq l) (h : IsLeft l K) : Uniq K := by
  unfold Uniq
  have hp := (isLeft_perm h).map (·.who)
  rw [hp.nodup_iff]
  unfold untaken
  exact List.Nodup.sublist (List.Sublist.map _ (List.filter_sublist)) hu
theorem left_apart {l K : List Msg} (hu : Uniq l) (h : IsLeft l K) {i : Nat} {x m : Msg} (hx : K[i]? = some x) (hm : K[i + 1]? = some m) : ¬ (x.fr = m.fr ∧ x.ca = m.ca) := fun e => by
  have hk := left_uniq hu h
  have hw : x.who = m.who := by unfold Msg.who; rw [e.1, e.2]
  have h1 := plc_uniq hk hx
  have h2 := plc_uniq hk hm
  rw [hw, h2] at h1
  injection h1 with h1
  omega
theorem sender_in {l : List Msg} {m : Msg} (hm : m ∈ l) (ht : m.tk = false) (hf : 0 ≤ m.fr ∧ m.fr < 64) : m.fr ∈ sendersL l m.inb := by
  unfold sendersL
  rw [List.mem_filter, upto_mem]
  refine ⟨⟨hf.1, by exact_mod_cast hf.2⟩, ?_⟩
  have : (firstL l ⟨m.inb.key, m.fr, m.inb.to⟩ (-1)).isSome = true := by
    unfold firstL
    rw [List.find?_isSome]
    refine ⟨m, hm, ?_⟩
    unfold isM tagged
    simp [ht]
    rfl
  exact this
theorem pre_one {α : Type} : ∀ {A A' B B' : List α} {m : α}, A ++ m :: B = A' ++ m :: B' → ¬ m ∈ A → ¬ m ∈ A' → A = A'
  | [], [], _, _, _, _, _, _ => rfl
  | [], x :: A', _, _, m, h, _, h2 => by
    rw [List.nil_append, List.cons_append] at h
    injection h with h3 _
    exact absurd (by rw [h3]; exact List.mem_cons_self) h2
  | x :: A, [], _, _, m, h, h1, _ => by
    rw [List.nil_append, List.cons_append] at h
    injection h with h3 _
    exact absurd (by rw [← h3]; exact List.mem_cons_self) h1
  | x :: A, y :: A', B, B', m, h, h1, h2 => by
    rw [List.cons_append, List.cons_append] at h
    injection h with h3 h4
    rw [h3, pre_one h4 (fun hm => h1 (List.mem_cons_of_mem _ hm)) (fun hm => h2 (List.mem_cons_of_mem _ hm))]
theorem uniq_pre {l : List Msg} (hu : Uniq l) {i : Nat} {m : Msg} (hm : l[i]? = some m) : ¬ m ∈ l.take i := fun h => by
  have h1 := plc_uniq hu hm
  obtain ⟨j, hj⟩ := List.mem_iff_getElem?.1 h
  rw [List.getElem?_take] at hj
  split at hj
  · rename_i hlt
    have h2 := plc_uniq hu hj
    rw [h1] at h2
    injection h2 with h2
    omega
  · cases hj
theorem ahead_left {l K : List Msg} (hu : Uniq l) (h : IsLeft l K) {i : Nat} {m : Msg} (hm : K[i]? = some m) : aheadL l m.who = ofL (K.take i) m.ch := by
  obtain ⟨hl, ht⟩ := left_mem h (List.mem_of_getElem? hm)
  obtain ⟨p, hp, hpl, _⟩ := find_it hu hl
  have e1 : aheadL l m.who = picked (l.take p) m.ch := by
    unfold aheadL
    rw [hpl]
    show (l.take p).filter (fun x => isM x (l.getD p m0).ch) = _
    rw [List.getD_eq_getElem?_getD, hp]
    rfl
  have k1 : picked l m.ch = picked (l.take p) m.ch ++ m :: picked (l.drop (p + 1)) m.ch := by
    conv => lhs; rw [cut_at hp]
    rw [picked_app]
    congr 1
    unfold picked
    rw [List.filter_cons, if_pos (by unfold isM; simp [ht])]
  have k2 : ofL K m.ch = ofL (K.take i) m.ch ++ m :: ofL (K.drop (i + 1)) m.ch := by
    conv => lhs; rw [cut_at hm]
    unfold ofL
    rw [List.filter_append, List.filter_cons, if_pos (by simp)]
  rw [e1]
  refine (pre_one (k2.symm.trans ((ofL_left h m.ch).trans k1)) (fun hx => ?_) (fun hx => ?_)).symm
  · exact uniq_pre (left_uniq hu h) hm (List.mem_filter.1 hx).1
  · exact uniq_pre hu hp (List.mem_filter.1 hx).1
end Qu
end Go.Proofs.Ytomladbdebfikaa
