/- Heights by rounds and heights by a list tell the same: no program's text. -/
import Derived.Test.YtegpimaakgledaaDoorRows
import Derived.Test.YtegpimaakgledaaDoorCodY
namespace Go.Proofs.YtegpimaakgledaaDoor
open Go Go.RowKit
set_option linter.unusedVariables false
set_option linter.unusedSimpArgs false
namespace Cod
/-- A place is come to at a height. -/
inductive Dv (cs : List In) : Nat → Int → Prop
  | start : Dv cs 0 0
  | step (k : Nat) (h b : Int) (j : Nat) : Dv cs k h → k < cs.length → stepI (cs.getD k default) h = some b → j ∈ waysI (cs.getD k default) k → Dv cs j b
/-- Something is come to that may not be gone over, or at two heights. -/
def Bad (cs : List In) : Prop := (∃ k h, k < cs.length ∧ Dv cs k h ∧ stepI (cs.getD k default) h = none) ∨ ∃ k h h', k < cs.length ∧ Dv cs k h ∧ Dv cs k h' ∧ h ≠ h'
/-- Heights so far. -/
structure Snd (cs : List In) (h : List Int) : Prop where
  len : h.length = cs.length
  zero : h.getD 0 0 = 0
  snd : ∀ k, k < cs.length → h.getD k 0 ≠ -1 → Dv cs k (h.getD k 0)
  bnd : ∀ k, k < cs.length → h.getD k 0 = -1 ∨ (0 ≤ h.getD k 0 ∧ h.getD k 0 ≤ 200)
def HS (cs : List In) (r : Option (List Int)) : Prop := (r = none ∧ Bad cs) ∨ ∃ hs, r = some hs ∧ Snd cs hs ∧ ∀ k, k < cs.length → hs.getD k 0 ≠ -1 → Cl cs hs k
theorem Dv.at_ {cs : List In} (ok : CsOk cs) {hs : List Int} (S : Snd cs hs) (C : ∀ k, k < cs.length → hs.getD k 0 ≠ -1 → Cl cs hs k) {k : Nat} {h : Int} (D : Dv cs k h) : k < cs.length ∧ hs.getD k 0 = h ∧ h ≠ -1 := by
  induction D with
  | start => exact ⟨ok.pos, S.zero, by decide⟩
  | step k h b j D hk hst hj ih =>
    obtain ⟨_, i2, i3⟩ := ih
    obtain ⟨b', c1, c2⟩ := C k hk (by rw [i2]; exact i3)
    rw [i2, hst] at c1
    injection c1 with c1
    subst c1
    exact ⟨ways_lt ok hk j hj, c2 j hj, stepI_nonneg hst⟩
theorem HS.det {cs : List In} (ok : CsOk cs) {r q : Option (List Int)} (h : HS cs r) (k : HS cs q) : r = q := by
  have nb : ∀ hs, Snd cs hs → (∀ k, k < cs.length → hs.getD k 0 ≠ -1 → Cl cs hs k) → ¬ Bad cs := by
    intro hs S C B
    rcases B with ⟨k, h, hk, D, hn⟩ | ⟨k, h, h', hk, D, D', hne⟩
    · obtain ⟨_, i2, i3⟩ := D.at_ ok S C
      obtain ⟨b, c1, _⟩ := C k hk (by rw [i2]; exact i3)
      rw [i2, hn] at c1
      cases c1
    · exact hne ((D.at_ ok S C).2.1.symm.trans (D'.at_ ok S C).2.1)
  rcases h with ⟨rfl, hb⟩ | ⟨hs, rfl, S, C⟩ <;> rcases k with ⟨rfl, kb⟩ | ⟨hs', rfl, S', C'⟩
  · rfl
  · exact absurd hb (nb _ S' C')
  · exact absurd kb (nb _ S C)
  · congr 1
    apply List.ext_getElem (S.len.trans S'.len.symm)
    intro i h1 h2
    have hi : i < cs.length := by rw [← S.len]; exact h1
    have e1 : hs.getD i 0 = hs[i] := by rw [List.getD_eq_getElem?_getD, List.getElem?_eq_getElem h1]; rfl
    have e2 : hs'.getD i 0 = hs'[i] := by rw [List.getD_eq_getElem?_getD, List.getElem?_eq_getElem h2]; rfl
    rw [← e1, ← e2]
    by_cases n1 : hs.getD i 0 = -1
    · by_cases n2 : hs'.getD i 0 = -1
      · rw [n1, n2]
      · exact ((S'.snd i hi n2).at_ ok S C).2.1
    · exact ((S.snd i hi n1).at_ ok S' C').2.1.symm
theorem Snd.set {cs : List In} {h : List Int} (S : Snd cs h) {j : Nat} {b : Int} (hj : j < cs.length) (hm : h.getD j 0 = -1) (D : Dv cs j b) (hb : 0 ≤ b ∧ b ≤ 200) : Snd cs (h.set j b) := by
  have e0 : j ≠ 0 := fun e => by rw [e, S.zero] at hm; cases hm
  have hl : j < h.length := by rw [S.len]; exact hj
  refine ⟨by rw [List.length_set]; exact S.len, by rw [getD_set_other e0]; exact S.zero, fun k hk hn => ?_, fun k hk => ?_⟩
  · by_cases e : j = k
    · subst e; rw [getD_set_same hl]; exact D
    · rw [getD_set_other e] at hn ⊢; exact S.snd k hk hn
  · by_cases e : j = k
    · subst e; rw [getD_set_same hl]; exact .inr hb
    · rw [getD_set_other e]; exact S.bnd k hk
theorem stepI_bnd {x : In} {h b : Int} (e : stepI x h = some b) : 0 ≤ b ∧ b ≤ 200 := by
  have := opO_small x.op
  unfold stepI at e
  split at e
  · cases e; omega
  · cases e
theorem wayF_snd {cs : List In} {b : Int} (hb : 0 ≤ b ∧ b ≤ 200) : ∀ (ws : List Nat) (h : List Int) (t : List Nat), (∀ j ∈ ws, j < cs.length ∧ Dv cs j b) → Snd cs h → (∀ a ∈ t, a < cs.length ∧ h.getD a 0 ≠ -1) →
    (wayF b ws h t = none → Bad cs) ∧ ∀ h' t', wayF b ws h t = some (h', t') → Snd cs h' ∧ ∀ a ∈ t', a < cs.length ∧ h'.getD a 0 ≠ -1
  | [], h, t, _, S, T => ⟨fun e => (by unfold wayF at e; cases e), fun h' t' e => (by unfold wayF at e; cases e; exact ⟨S, T⟩)⟩
  | k :: l, h, t, W, S, T => by
    obtain ⟨hk, D⟩ := W k List.mem_cons_self
    unfold wayF
    split
    · rename_i h1
      refine wayF_snd hb l _ _ (fun j hj => W j (List.mem_cons_of_mem _ hj)) (S.set hk h1 D hb) fun a ha => ?_
      rcases List.mem_append.1 ha with ha | ha
      · obtain ⟨a1, a2⟩ := T a ha
        refine ⟨a1, ?_⟩
        rw [getD_set_other (fun e => a2 (by rw [← e]; exact h1))]
        exact a2
      · rw [List.mem_singleton.1 ha, getD_set_same (by rw [S.len]; exact hk)]
        exact ⟨hk, by omega⟩
    · split
      · exact wayF_snd hb l _ _ (fun j hj => W j (List.mem_cons_of_mem _ hj)) S T
      · rename_i h1 h2
        exact ⟨fun _ => .inr ⟨k, _, _, hk, S.snd k hk h1, D, h2⟩, fun h' t' e => by cases e⟩
theorem Goes.snd {cs : List In} (ok : CsOk cs) {h : List Int} {t : List Nat} {r : Option (List Int)} (H : Goes cs h t r) : Snd cs h → (∀ a ∈ t, a < cs.length ∧ h.getD a 0 ≠ -1) → (r = none → Bad cs) ∧ ∀ hs, r = some hs → Snd cs hs := by
  induction H with
  | stop h => exact fun S _ => ⟨fun e => (by cases e), fun hs e => (by cases e; exact S)⟩
  | bad h t a hb =>
    intro S T
    refine ⟨fun _ => ?_, fun hs e => by cases e⟩
    obtain ⟨ha, hn⟩ := T a (List.mem_append_right _ (List.mem_singleton.2 rfl))
    have D := S.snd a ha hn
    unfold goF at hb
    cases hst : stepI (cs.getD a default) (h.getD a 0) with
    | none => exact .inl ⟨a, _, ha, D, hst⟩
    | some b =>
      rw [hst] at hb
      exact (wayF_snd (stepI_bnd hst) _ h t (fun j hj => ⟨ways_lt ok ha j hj, .step a _ b j D ha hst hj⟩) S (fun x hx => T x (List.mem_append_left _ hx))).1 hb
  | go h t a h' t' r hg K ih =>
    intro S T
    obtain ⟨ha, hn⟩ := T a (List.mem_append_right _ (List.mem_singleton.2 rfl))
    have D := S.snd a ha hn
    unfold goF at hg
    obtain ⟨b, hst, hg⟩ := Option.bind_eq_some_iff.1 hg
    obtain ⟨S', T'⟩ := (wayF_snd (stepI_bnd hst) _ h t (fun j hj => ⟨ways_lt ok ha j hj, .step a _ b j D ha hst hj⟩) S (fun x hx => T x (List.mem_append_left _ hx))).2 _ _ hg
    exact ih S' T'
theorem Snd.start {n : Nat} {cs : List In} (hn : cs.length = n) (hp : 0 < n) : Snd cs (h0 n) := by
  have key : ∀ k, k < n → (h0 n).getD k 0 = if k = 0 then 0 else -1 := by
    intro k hk
    by_cases e : k = 0
    · subst e; rw [if_pos rfl]; exact h0_at n hp
    · rw [if_neg e]
      unfold h0
      rw [getD_setO (fun h => e h.symm), List.getD_eq_getElem?_getD, List.getElem?_replicate, if_pos hk]
      rfl
  refine ⟨by unfold h0; simp [hn], h0_at n hp, fun k hk h => ?_, fun k hk => ?_⟩
  · rw [key k (by omega)] at h ⊢
    split at h
    · rename_i e; subst e; exact .start
    · exact absurd rfl h
  · rw [key k (by omega)]
    split
    · exact .inr (by decide)
    · exact .inl rfl
theorem Goes.hs {cs : List In} (ok : CsOk cs) {r : Option (List Int)} (H : Goes cs (h0 cs.length) [0] r) : HS cs r := by
  have S := Snd.start (cs := cs) rfl ok.pos
  obtain ⟨g1, g2⟩ := H.snd ok S (fun a ha => by rw [List.mem_singleton.1 ha, S.zero]; exact ⟨ok.pos, by decide⟩)
  cases r with
  | none => exact .inl ⟨rfl, g1 rfl⟩
  | some hs =>
    refine .inr ⟨hs, rfl, g2 hs rfl, H.closed hs rfl fun k hk h1 => .inl (List.mem_singleton.2 ?_)⟩
    by_cases e : k = 0
    · exact e
    · exfalso
      apply h1
      unfold h0
      rw [getD_setO (fun h => e h.symm), List.getD_eq_getElem?_getD, List.getElem?_replicate, if_pos hk]
      rfl
/-- What the document's Heights tells. -/
def HrR (cs : List In) (vars : Int) (arrs : List Int) (r : Option (List Int)) : Prop := (mayNs cs vars arrs = false ∧ r = none) ∨ (mayNs cs vars arrs = true ∧ HS cs r)
theorem HtR.same {cs : List In} {vars : Int} {arrs : List Int} {r q : Option (List Int)} (h : HtR cs vars arrs r) (k : HrR cs vars arrs q) : r = q := by
  rcases h with ⟨h1, rfl⟩ | ⟨h1, h2⟩ <;> rcases k with ⟨k1, rfl⟩ | ⟨k1, k2⟩
  · rfl
  · rw [h1] at k1; cases k1
  · rw [h1] at k1; cases k1
  · exact (h2.hs (mayNs_csok h1)).det (mayNs_csok h1) k2
end Cod
end Go.Proofs.YtegpimaakgledaaDoor
