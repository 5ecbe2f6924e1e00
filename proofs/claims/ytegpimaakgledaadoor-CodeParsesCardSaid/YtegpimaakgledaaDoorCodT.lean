/- The laid table of powers of ten, of this layer's rows; a place that is not come to. -/
import Derived.Test.YtegpimaakgledaaDoorRows
import Derived.Test.YtegpimaakgledaaDoorNumP
import Derived.Test.YtegpimaakgledaaDoorCodI
import Derived.LaidMore
namespace Go.Proofs.YtegpimaakgledaaDoor
open Go Go.RowKit
set_option linter.unusedVariables false
set_option linter.unusedSimpArgs false
namespace Cod
theorem Pow.of_laid {W : World} (h : laidMetH Tryd.prog [("math/bits.deBruijn32tab", Rows.laid_math_bits_deBruijn32tab), ("math/bits.deBruijn64tab", Rows.laid_math_bits_deBruijn64tab), ("internal/strconv.uint64pow10", Rows.laid_internal_strconv_uint64pow10), ("dispatcher/code.operations", Rows.laid_dispatcher_code_operations)] W) : Pow W := by
  have h' : laidMet Tryd.prog [("math/bits.deBruijn32tab", Rows.laid_math_bits_deBruijn32tab), ("math/bits.deBruijn64tab", Rows.laid_math_bits_deBruijn64tab), ("internal/strconv.uint64pow10", Rows.laid_internal_strconv_uint64pow10), ("dispatcher/code.operations", Rows.laid_dispatcher_code_operations)] W := h
  clear h
  obtain ⟨ps, ⟨_, _, _, _, _, _, _, _, _, _, ⟨_, _, _, _, _, _, _, _, _, _, ⟨g', t', cs, fuel, p, q, hg', ht', hvar, hd, _, _⟩, _⟩, _⟩, _⟩ := h'
  have hg : Tryd.prog.globalNamed "internal/strconv.uint64pow10" = some 1 := by kernel_rfl
  have hty : (Tryd.prog.globals[1]?).map (·.type) = some 115 := by kernel_rfl
  obtain rfl := Option.some.inj (hg.symm.trans hg')
  obtain rfl := Option.some.inj (hty.symm.trans ht')
  have hc := Lib.cells_of_tab (k := .u64) (zs := Lib.pow10Tab) Tryd.underlying115 Tryd.underlying103 (by kernel_rfl) (by kernel_rfl) hd
  have ht : Lib.TabIs Tryd.prog W "internal/strconv.uint64pow10" .u64 Lib.pow10Tab := by
    unfold Lib.TabIs
    rw [hvar, ← hc]
  refine ⟨ht, ?_⟩
  have h0 := ht.cell hg 0 (by decide)
  have := block_lt_of_cell h0
  exact Nat.lt_of_le_of_lt (Nat.zero_le _) this
theorem getD_setO {h : List Int} {k j : Nat} {b : Int} (hj : k ≠ j) : (h.set k b).getD j 0 = h.getD j 0 := by
  rw [List.getD_eq_getElem?_getD, List.getElem?_set_ne hj, ← List.getD_eq_getElem?_getD]
theorem wayF_keep {b : Int} (hb : b ≠ -1) : ∀ (ws : List Nat) (h : List Int) (t : List Nat) (h' : List Int) (t' : List Nat), wayF b ws h t = some (h', t') →
    (∀ k, h.getD k 0 ≠ -1 → h'.getD k 0 = h.getD k 0) ∧ ((∀ k ∈ t, h.getD k 0 ≠ -1) → ∀ k ∈ t', h'.getD k 0 ≠ -1)
  | [], h, t, h', t', e => by
    unfold wayF at e
    cases e
    exact ⟨fun _ _ => rfl, fun h => h⟩
  | k :: l, h, t, h', t', e => by
    unfold wayF at e
    split at e
    · rename_i h1
      obtain ⟨g1, g2⟩ := wayF_keep hb l _ _ _ _ e
      have hk : k < h.length := by
        rcases Nat.lt_or_ge k h.length with h2 | h2
        · exact h2
        · rw [List.getD_eq_getElem?_getD, List.getElem?_eq_none h2] at h1; cases h1
      have hs : (h.set k b).getD k 0 = b := by rw [List.getD_eq_getElem?_getD, List.getElem?_set_self hk]; rfl
      refine ⟨fun j hj => ?_, fun ht => g2 fun j hj => ?_⟩
      · have hne : k ≠ j := fun e => hj (by rw [← e]; exact h1)
        rw [g1 j (by rw [getD_setO hne]; exact hj), getD_setO hne]
      · by_cases e : k = j
        · subst e; rw [hs]; exact hb
        · rw [getD_setO e]
          rcases List.mem_append.1 hj with hj | hj
          · exact ht j hj
          · exact absurd (List.mem_singleton.1 hj).symm e
    · split at e
      · exact wayF_keep hb l _ _ _ _ e
      · cases e
theorem stepI_nonneg {x : In} {h b : Int} (e : stepI x h = some b) : b ≠ -1 := by
  have := opO_small x.op
  unfold stepI at e
  split at e
  · rename_i h1
    cases e
    omega
  · cases e
theorem goF_keep {cs : List In} {h : List Int} {t : List Nat} {a : Nat} {h' : List Int} {t' : List Nat} (e : goF cs h t a = some (h', t')) :
    (∀ k, h.getD k 0 ≠ -1 → h'.getD k 0 = h.getD k 0) ∧ ((∀ k ∈ t, h.getD k 0 ≠ -1) → ∀ k ∈ t', h'.getD k 0 ≠ -1) := by
  unfold goF at e
  obtain ⟨b, e1, e2⟩ := Option.bind_eq_some_iff.1 e
  exact wayF_keep (stepI_nonneg e1) _ _ _ _ _ e2
theorem Goes.keep {cs : List In} {h : List Int} {t : List Nat} {r : Option (List Int)} (H : Goes cs h t r) : ∀ hs, r = some hs → ∀ k, h.getD k 0 ≠ -1 → hs.getD k 0 = h.getD k 0 := by
  induction H with
  | stop h => intro hs e k _; cases e; rfl
  | bad h t a _ => intro hs e; cases e
  | go h t a h' t' r hg K ih =>
    intro hs e k hk
    have h1 := (goF_keep hg).1 k hk
    rw [ih hs e k (by rw [h1]; exact hk), h1]
/-- Another instruction at a place that is not come to changes nothing. -/
theorem Goes.unseen {cs cs' : List In} {p : Nat} (hcs : ∀ i, i ≠ p → cs'.getD i default = cs.getD i default) {h : List Int} {t : List Nat} {r : Option (List Int)} (H : Goes cs h t r) :
    ∀ hs, r = some hs → hs.getD p 0 = -1 → (∀ k ∈ t, h.getD k 0 ≠ -1) → Goes cs' h t r := by
  induction H with
  | stop h => intro hs _ _ _; exact .stop h
  | bad h t a _ => intro hs e; cases e
  | go h t a h' t' r hg K ih =>
    intro hs e hp ht
    have hne : a ≠ p := by
      intro e2
      subst e2
      have h1 := ht a (List.mem_append_right _ (List.mem_singleton.2 rfl))
      have h2 := (Goes.go h t a h' t' r hg K).keep hs e a h1
      rw [h2] at hp
      exact h1 hp
    have hg' : goF cs' h t a = some (h', t') := by
      unfold goF at hg ⊢
      rw [hcs a hne]
      exact hg
    exact .go h t a h' t' r hg' (ih hs e hp ((goF_keep hg).2 fun k hk => ht k (List.mem_append_left _ hk)))
end Cod
end Go.Proofs.YtegpimaakgledaaDoor
