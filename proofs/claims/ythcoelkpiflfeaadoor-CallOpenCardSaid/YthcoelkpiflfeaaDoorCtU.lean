/- Calls on a group with more ranks; calls of any rank and any tag. No program's text. -/
import Derived.Test.YthcoelkpiflfeaaDoorCtT
namespace Go.Proofs.YthcoelkpiflfeaaDoor
open Go Go.RowKit Go.Proofs.YthcoelkpiflfeaaDoor.Grp
set_option linter.unusedVariables false
set_option linter.unusedSimpArgs false
namespace Cal
theorem mayF_more {c : Cl} {n m : Nat} {f : Int} (h : Cal.mayF c n f) (hl : n ≤ m) : Cal.mayF c m f := by
  unfold Cal.mayF at h ⊢
  split
  · rename_i h0; rw [if_pos h0] at h; exact h
  rename_i h0; rw [if_neg h0] at h
  split
  · rename_i h1; rw [if_pos h1] at h; exact h.imp (fun ⟨a, b⟩ => ⟨a, by omega⟩) id
  rename_i h1; rw [if_neg h1] at h
  split
  · rename_i h2; rw [if_pos h2] at h; exact h
  rename_i h2; rw [if_neg h2] at h
  split
  · rename_i h4; rw [if_pos h4] at h; exact h
  rename_i h4; rw [if_neg h4] at h
  split
  · rename_i h5; rw [if_pos h5] at h; exact ⟨h.1, by omega⟩
  rename_i h5; rw [if_neg h5] at h
  exact h
theorem may_more {c : Cl} {l l' : List Int} (h : mayC c l) (h' : mayL l') (hl : l.length ≤ l'.length) : mayC c l' :=
  ⟨h', h.2.1, fun f hf => mayF_more (h.2.2 f hf) hl⟩
theorem may_none (c : Cl) : ¬ mayC c [] := fun h => by have := h.1.1; simp at this
/-- Does a kind receive or probe? -/
def openK (k : Int) : Prop := k = 6 ∨ k = 7 ∨ k = 13 ∨ k = 14
instance (k : Int) : Decidable (openK k) := by unfold openK; infer_instance
/-- A call, trim, of any rank and any tag. -/
def anyC (c : Cl) : Cl := { trimC c with pe := -1, tg := -1 }
theorem open_used {k : Int} (h : openK k) : usedL k = [0, 1, 2] := by
  rcases h with e | e | e | e <;> subst e <;> decide
theorem any_k {c : Cl} (h : usedL c.k ≠ []) : (anyC c).k = c.k := if_neg h
theorem any_open {c : Cl} (h : openK c.k) {l : List Int} (hl : mayL l) : mayC (anyC c) l ↔ 0 ≤ c.co ∧ c.co < 32 := by
  have hu := open_used h
  have hk : (anyC c).k = c.k := any_k (by rw [hu]; simp)
  have hco : (anyC c).co = c.co := by
    show (if hasF c.k 0 then c.co else 0) = c.co
    exact if_pos (by unfold hasF; rw [hu]; decide)
  have hw : wildK (anyC c).k := by rw [hk]; exact h
  unfold mayC
  rw [hk, hu]
  constructor
  · rintro ⟨_, _, h3⟩
    have := h3 0 (by simp)
    unfold Cal.mayF at this
    rw [if_pos rfl, hco] at this
    exact this
  · intro hc
    refine ⟨hl, by simp, fun f hf => ?_⟩
    simp only [List.mem_cons, List.not_mem_nil, or_false] at hf
    rcases hf with rfl | rfl | rfl
    · unfold Cal.mayF; rw [if_pos rfl, hco]; exact hc
    · unfold Cal.mayF; rw [if_neg (by decide), if_pos rfl]; exact .inr ⟨hw, rfl⟩
    · unfold Cal.mayF; rw [if_neg (by decide), if_neg (by decide), if_pos rfl]; exact .inr ⟨hw, rfl⟩
theorem any_shut {c : Cl} (h0 : (trimC c).k ≠ 0) (h5 : (trimC c).k ≤ 5) (hk0 : 0 ≤ c.k) (l : List Int) : ¬ mayC (anyC c) l := by
  have hn : usedL c.k ≠ [] := fun e => h0 (if_pos e)
  have hk : (anyC c).k = c.k := any_k hn
  have hk2 : (trimC c).k = c.k := if_neg hn
  rw [hk2] at h0 h5
  have hu : usedL c.k = [0, 1, 2, 3, 4] := by
    unfold usedL
    rw [if_pos (by omega)]
  rintro ⟨_, _, h3⟩
  have := h3 1 (by rw [hk, hu]; simp)
  unfold Cal.mayF at this
  rw [if_neg (by decide), if_pos rfl] at this
  rcases this with ⟨h, _⟩ | ⟨h, _⟩
  · have : (-1 : Int) ≥ 0 := h
    omega
  · rw [hk] at h
    unfold wildK at h
    omega
theorem any_dec {c : Cl} (h : openK c.k) : decC (anyC c) = true := by
  have hk : (anyC c).k = c.k := any_k (by rw [open_used h]; simp)
  unfold decC
  rw [hk, show (anyC c).pe = -1 from rfl]
  rcases h with e | e | e | e <;> rw [e] <;> decide
end Cal
end Go.Proofs.YthcoelkpiflfeaaDoor
