/- Heights that are told stay along each way: no program's text. -/
import Derived.Test.YtegpimaakgledaaDoorRows
import Derived.Test.YtegpimaakgledaaDoorCodV
import Derived.Test.YtegpimaakgledaaDoorCodH
namespace Go.Proofs.YtegpimaakgledaaDoor
open Go Go.RowKit
set_option linter.unusedVariables false
set_option linter.unusedSimpArgs false
namespace Cod
theorem lt_of_neg {h : List Int} {k : Nat} (e : h.getD k 0 = -1) : k < h.length := by
  rcases Nat.lt_or_ge k h.length with h1 | h1
  · exact h1
  · rw [List.getD_eq_getElem?_getD, List.getElem?_eq_none h1] at e; cases e
theorem wayF_all {b : Int} (hb : b ≠ -1) : ∀ (ws : List Nat) (h : List Int) (t : List Nat) (h' : List Int) (t' : List Nat), wayF b ws h t = some (h', t') →
    (∀ j ∈ ws, h'.getD j 0 = b) ∧ (∀ k, h.getD k 0 = -1 → h'.getD k 0 ≠ -1 → k ∈ t') ∧ (∀ k ∈ t, k ∈ t')
  | [], h, t, h', t', e => by
    unfold wayF at e
    cases e
    exact ⟨fun j hj => absurd hj List.not_mem_nil, fun k h1 h2 => absurd h1 h2, fun k hk => hk⟩
  | k :: l, h, t, h', t', e => by
    unfold wayF at e
    split at e
    · rename_i h1
      obtain ⟨g1, g2, g3⟩ := wayF_all hb l _ _ _ _ e
      have kp := (wayF_keep hb l _ _ _ _ e).1
      have hs : (h.set k b).getD k 0 = b := by rw [List.getD_eq_getElem?_getD, List.getElem?_set_self (lt_of_neg h1)]; rfl
      have hk' : h'.getD k 0 = b := by rw [kp k (by rw [hs]; exact hb), hs]
      refine ⟨fun j hj => ?_, fun j h2 h3 => ?_, fun j hj => g3 j (List.mem_append_left _ hj)⟩
      · rcases List.mem_cons.1 hj with rfl | hj
        · exact hk'
        · exact g1 j hj
      · by_cases ej : k = j
        · subst ej
          exact g3 k (List.mem_append_right _ (List.mem_singleton.2 rfl))
        · exact g2 j (by rw [getD_setO ej]; exact h2) h3
    · split at e
      · rename_i h1 h2
        obtain ⟨g1, g2, g3⟩ := wayF_all hb l _ _ _ _ e
        have kp := (wayF_keep hb l _ _ _ _ e).1
        refine ⟨fun j hj => ?_, g2, g3⟩
        rcases List.mem_cons.1 hj with rfl | hj
        · rw [kp j h1, h2]
        · exact g1 j hj
      · cases e
/-- A place has been gone on from: all that it goes on to has the height behind it. -/
def Cl (cs : List In) (h : List Int) (k : Nat) : Prop := ∃ b, stepI (cs.getD k default) (h.getD k 0) = some b ∧ ∀ j ∈ waysI (cs.getD k default) k, h.getD j 0 = b
theorem Goes.closed {cs : List In} {h : List Int} {t : List Nat} {r : Option (List Int)} (H : Goes cs h t r) :
    ∀ hs, r = some hs → (∀ k, k < cs.length → h.getD k 0 ≠ -1 → k ∈ t ∨ Cl cs h k) → ∀ k, k < cs.length → hs.getD k 0 ≠ -1 → Cl cs hs k := by
  induction H with
  | stop h =>
    intro hs e I k hk hn
    cases e
    rcases I k hk hn with h1 | h1
    · cases h1
    · exact h1
  | bad h t a _ => intro hs e; cases e
  | go h t a h' t' r hg K ih =>
    intro hs e I
    refine ih hs e fun k hk hn => ?_
    have hg2 := hg
    unfold goF at hg2
    obtain ⟨b, e1, e2⟩ := Option.bind_eq_some_iff.1 hg2
    have hb := stepI_nonneg e1
    obtain ⟨w1, w2, w3⟩ := wayF_all hb _ _ _ _ _ e2
    have kp := (goF_keep hg).1
    by_cases h0 : h.getD k 0 = -1
    · exact .inl (w2 k h0 hn)
    · rcases I k hk h0 with h1 | h1
      · rcases List.mem_append.1 h1 with h1 | h1
        · exact .inl (w3 k h1)
        · obtain rfl := List.mem_singleton.1 h1
          exact .inr ⟨b, by rw [kp k h0]; exact e1, w1⟩
      · obtain ⟨c, c1, c2⟩ := h1
        have hc := stepI_nonneg c1
        exact .inr ⟨c, by rw [kp k h0]; exact c1, fun j hj => by rw [kp j (by rw [c2 j hj]; exact hc), c2 j hj]⟩
def htAt (hs : List Int) (k : Nat) : Int := hs.getD k 0
theorem tkI_nonneg (x : In) : 0 ≤ tkI x := by
  unfold tkI
  split
  · omega
  · exact (opO_small _).1
/-- What holds at a place that is come to. -/
structure WayAt (cs : List In) (hs : List Int) (p : Nat) (o : Nat) (n : Int) : Prop where
  it : cs.getD p default = ⟨o, n⟩
  lo : 1 ≤ o
  hi : o ≤ 29
  cal : o = 28 → mayCl n = true
  h0 : 0 ≤ htAt hs p
  h1 : htAt hs p ≤ 200
  t0 : 0 ≤ tkI ⟨o, n⟩
  t1 : tkI ⟨o, n⟩ ≤ htAt hs p
  a0 : 0 ≤ adO o
  a1 : adO o ≤ 2
  bh : htAt hs p - tkI ⟨o, n⟩ + adO o ≤ 200
  jmp : o = 22 ∨ o = 23 ∨ o = 24 → ∃ k : Nat, n = k ∧ k < cs.length ∧ htAt hs k = htAt hs p - tkI ⟨o, n⟩ + adO o
  nxt : o ≠ 22 → o ≠ 29 → p + 1 < cs.length ∧ htAt hs (p + 1) = htAt hs p - tkI ⟨o, n⟩ + adO o
theorem HtR.wayAt {cs : List In} {vars : Int} {arrs hs : List Int} (h : HtR cs vars arrs (some hs)) (hbd : ∀ k, k < cs.length → hs.getD k 0 = -1 ∨ (0 ≤ hs.getD k 0 ∧ hs.getD k 0 ≤ 200)) {p : Nat} (hp : p < cs.length) (hn : htAt hs p ≠ -1) :
    ∃ o n, WayAt cs hs p o n := by
  rcases h with ⟨_, h⟩ | ⟨hm, hg⟩
  · cases h
  have ok := mayNs_csok hm
  obtain ⟨_, _, _, _, _, _, hmn⟩ := mayNs_parts hm
  have hmp := hmn (cs.getD p default) (by rw [List.getD_eq_getElem?_getD, List.getElem?_eq_getElem hp]; exact List.getElem_mem hp)
  obtain ⟨e1, e2, e3, e4⟩ := ok.each p hp
  have hcl : Cl cs hs p := hg.closed hs rfl (fun k hk h1 => by
    refine .inl (List.mem_singleton.2 ?_)
    by_cases e : k = 0
    · exact e
    · exfalso
      apply h1
      unfold h0
      rw [getD_setO (fun h => e h.symm), List.getD_eq_getElem?_getD, List.getElem?_replicate, if_pos hk]
      rfl) p hp hn
  obtain ⟨b, hb1, hb2⟩ := hcl
  have hlt := ways_lt ok hp
  generalize hx : cs.getD p default = x at *
  obtain ⟨op, n⟩ := x
  obtain ⟨o, ho⟩ : ∃ o : Nat, op = o := ⟨op.toNat, by simp only at e1; omega⟩
  subst ho
  simp only at e1 e2 e3 e4
  unfold stepI at hb1
  split at hb1
  rotate_left
  · cases hb1
  rename_i hst
  injection hb1 with hb1
  have hz := (hbd p hp).resolve_left hn
  obtain ⟨_, _, a0, a1, _, _⟩ := opO_small (o : Int)
  refine ⟨o, n, hx, by omega, by omega, fun e => ?_, hz.1, hz.2, tkI_nonneg _, hst.1, a0, a1, hst.2, fun e => ?_, fun n22 n29 => ?_⟩
  · subst e
    unfold mayN at hmp
    simp only [Bool.and_eq_true] at hmp
    have := hmp.2
    exact this
  · obtain ⟨q1, q2⟩ := e4 (by omega)
    refine ⟨n.toNat, by omega, by omega, ?_⟩
    have hw : n.toNat ∈ waysI ⟨(o : Int), n⟩ p := by
      unfold waysI
      rw [if_neg (show ¬ (o : Int) = 29 by omega)]
      rcases e with rfl | rfl | rfl
      · exact List.mem_singleton.2 rfl
      · exact List.mem_cons_self
      · exact List.mem_cons_self
    exact (hb2 _ hw).trans hb1.symm
  · have hw : p + 1 ∈ waysI ⟨(o : Int), n⟩ p := by
      unfold waysI
      rw [if_neg (show ¬ (o : Int) = 29 by omega), if_neg (show ¬ (o : Int) = 22 by omega)]
      split
      · exact List.mem_cons_of_mem _ (List.mem_singleton.2 rfl)
      · exact List.mem_singleton.2 rfl
    exact ⟨hlt _ hw, (hb2 _ hw).trans hb1.symm⟩
theorem HtR.first {cs : List In} {vars : Int} {arrs hs : List Int} (h : HtR cs vars arrs (some hs)) : 0 < cs.length ∧ htAt hs 0 = 0 := by
  rcases h with ⟨_, h⟩ | ⟨hm, hg⟩
  · cases h
  have hp := (mayNs_csok hm).pos
  refine ⟨hp, ?_⟩
  have h1 := h0_at cs.length hp
  have := hg.keep hs rfl 0 (by rw [h1]; decide)
  unfold htAt
  rw [this, h1]
end Cod
end Go.Proofs.YtegpimaakgledaaDoor
