/- The scan's state from round to round, in plain words. No program's text. -/
import Derived.Test.YtekdchhengcfoaaDoorRows
import Derived.Test.YtekdchhengcfoaaDoorScanG
namespace Go.Proofs.YtekdchhengcfoaaDoor
open Go.RowKit
set_option linter.unusedVariables false
set_option linter.unusedSimpArgs false
theorem ext_ext (s : ByteArray) (pos n : Nat) (h : pos + n ≤ s.size) : (s.extract pos s.size).extract 0 n = s.extract pos (pos + n) := by
  rw [ByteArray.extract_extract]
  congr 1 <;> omega
theorem tail_size (s : ByteArray) (pos : Nat) : (s.extract pos s.size).size = s.size - pos := by
  rw [ByteArray.size_extract]; omega
theorem tail_get (s : ByteArray) (pos j : Nat) (hj : j < (s.extract pos s.size).size) : (s.extract pos s.size)[j] = s[pos + j]'(by rw [tail_size] at hj; omega) := by
  rw [ByteArray.getElem_extract]
theorem decode_le (s : ByteArray) (pos : Nat) (h : pos < s.size) (hd : 0 < (Utf8.decode s pos).2) : pos + (Utf8.decode s pos).2 ≤ s.size := by
  by_cases h1 : (Utf8.decode s pos).2 = 1
  · omega
  · have := (decode_cont s pos h ((Utf8.decode s pos).2 - 1) (by omega) (by omega)).1
    omega
theorem sign_ascii : ∀ p ∈ signsB, p.data.toList.all (fun b => b.toNat < 128) = true := by decide +kernel
theorem wordOf_ascii {t : ByteArray} {k v : Int} {n : Nat} (h : wordOf t = some (k, n, v)) : 0 < n ∧ n ≤ t.size ∧ ∀ j, j < n → ∃ h : j < t.size, (t[j]).toNat < 128 := by
  unfold wordOf at h
  split at h
  · rename_i h0
    split at h
    · rename_i h1
      have h128 : (t[0]).toNat < 128 := by
        simp [isLet] at h1
        omega
      have hlod : isLod (t[0]).toNat = true := by simp [isLod, h1]
      have r0 : 0 < runFrom isLod t 0 := by
        rw [runFrom_go h0 ⟨h128, hlod⟩]
        exact runFrom_ge isLod t _ 1 rfl
      have key : n = runFrom isLod t 0 := by
        split at h
        · simp only [Option.some.injEq, Prod.mk.injEq] at h; exact h.2.1.symm
        · split at h
          · simp only [Option.some.injEq, Prod.mk.injEq] at h; exact h.2.1.symm
          · cases h
      subst key
      exact ⟨r0, runFrom_le isLod t _ 0 rfl (by omega), fun j hj => by
        obtain ⟨h2, h3, _⟩ := runFrom_all isLod t _ 0 rfl j (by omega) hj
        exact ⟨h2, h3⟩⟩
    · split at h
      · rename_i h1 h2
        have h128 : (t[0]).toNat < 128 := by
          simp [isDig] at h2
          omega
        have r0 : 0 < runFrom isDig t 0 := by
          rw [runFrom_go h0 ⟨h128, h2⟩]
          exact runFrom_ge isDig t _ 1 rfl
        have key : n = runFrom isDig t 0 := by
          split at h
          · cases h
          · simp only [Option.some.injEq, Prod.mk.injEq] at h; exact h.2.1.symm
        subst key
        exact ⟨r0, runFrom_le isDig t _ 0 rfl (by omega), fun j hj => by
          obtain ⟨h2, h3, _⟩ := runFrom_all isDig t _ 0 rfl j (by omega) hj
          exact ⟨h2, h3⟩⟩
      · split at h
        · rename_i h3
          simp only [Option.some.injEq, Prod.mk.injEq] at h
          obtain ⟨_, rfl, _⟩ := h
          refine ⟨h3, signFrom_le t 0, fun j hj => ?_⟩
          have hjt : j < t.size := Nat.lt_of_lt_of_le hj (signFrom_le t 0)
          refine ⟨hjt, ?_⟩
          rcases signFromL_of t (signsB.drop 0) with h4 | ⟨p, hp, h5, h6⟩
          · unfold signFrom at h3; omega
          · have hp' : p ∈ signsB := by simpa using hp
            have ha := sign_ascii p hp'
            rw [List.all_eq_true] at ha
            have hx : t.extract 0 p.size = p := by
              simp only [hpB, Bool.and_eq_true, beq_iff_eq] at h5
              exact toList_inj h5.2
            have hjp : j < p.size := by unfold signFrom at hj; omega
            have hb : (t[j]) = p.data.toList[j]'(by simpa using hjp) := by
              have e1 : (t.extract 0 p.size)[j]'(by rw [hx]; exact hjp) = p[j]'hjp := by congr 1
              rw [ByteArray.getElem_extract] at e1
              simp only [Nat.zero_add] at e1
              rw [e1]; rfl
            have := ha _ (List.getElem_mem (by simpa using hjp : j < p.data.toList.length))
            rw [hb]
            simpa using this
        · cases h
  · cases h
/-- Where the scan goes on. -/
def nextP (s : ByteArray) (pos nx : Nat) (rm : Bool) : Nat := if rm = true then skip s pos else max pos nx
structure ScInv (s : ByteArray) (pos line ls nx : Nat) (rm : Bool) (acc : List Tok) : Prop where
  hp : pos ≤ s.size
  hl : line ≤ pos + 1
  h1 : ls ≤ pos
  h2 : nx ≤ s.size
  h3 : rm = true → nx ≤ pos
  h4 : ∀ j, pos ≤ j → j < nx → ∃ h : j < s.size, (s[j]).toNat < 128
  h5 : acc.length ≤ pos
  go : ∀ l e, Sc s (nextP s pos nx rm) line (nextP s pos nx rm - ls + 1) l e → Sc s 0 1 1 (acc ++ l) e
theorem inv_start (s : ByteArray) : ScInv s 0 1 0 0 false [] := ⟨by omega, by omega, by omega, by omega, by simp, fun j h1 h2 => by omega, by simp, fun l e h => h⟩
section
variable {s : ByteArray} {pos line ls nx : Nat} {rm : Bool} {acc : List Tok}
theorem inv_end (h : ScInv s pos line ls nx rm acc) (he : ¬ pos < s.size) : Sc s 0 1 1 acc none := by
  have := h.go [] none (by
    refine .fin ?_
    unfold nextP
    split
    · rw [skip_end he]; exact he
    · have := h.h2; have := h.hp; omega)
  simpa using this
theorem inv_skip (h : ScInv s pos line ls nx rm acc) (hn : pos < nx) : rm = false ∧ ScInv s (pos + 1) line ls nx rm acc := by
  have hr : rm = false := by
    cases rm
    · rfl
    · have := h.h3 rfl; omega
  subst hr
  refine ⟨rfl, ⟨by have := h.h2; omega, by have := h.hl; omega, by have := h.h1; omega, h.h2, by simp, fun j h1 h2 => h.h4 j (by omega) h2, by have := h.h5; omega, ?_⟩⟩
  have e : nextP s (pos + 1) nx false = nextP s pos nx false := by simp [nextP]; omega
  rw [e]
  exact h.go
theorem inv_nl (h : ScInv s pos line ls nx rm acc) (hn : ¬ pos < nx) (hp : pos < s.size) (hc : (s[pos]).toNat = 10) : ScInv s (pos + 1) (line + 1) (pos + 1) nx false acc := by
  refine ⟨by omega, by have := h.hl; omega, by omega, h.h2, by simp, fun j h1 h2 => by omega, by have := h.h5; omega, fun l e h' => ?_⟩
  have e1 : nextP s (pos + 1) nx false = pos + 1 := by simp [nextP]; omega
  have e2 : nextP s pos nx rm = pos := by
    cases rm
    · simp [nextP]; omega
    · simp [nextP, skip_stop hp hc]
  rw [e1] at h'
  refine h.go l e ?_
  rw [e2]
  refine .nl hp hc ?_
  have e3 : pos + 1 - (pos + 1) + 1 = 1 := by omega
  rwa [e3] at h'
theorem inv_remark {d : Nat} (h : ScInv s pos line ls nx true acc) (hk : skip s pos = skip s (pos + d)) (hd : 0 < d) (hp : pos + d ≤ s.size) : ScInv s (pos + d) line ls nx true acc := by
  have h3 := h.h3 rfl
  refine ⟨hp, by have := h.hl; omega, by have := h.h1; omega, h.h2, fun _ => by omega, fun j h1 h2 => by omega, by have := h.h5; omega, ?_⟩
  have e : nextP s (pos + d) nx true = nextP s pos nx true := by simp [nextP, hk]
  rw [e]
  exact h.go
theorem inv_blank (h : ScInv s pos line ls nx false acc) (hn : ¬ pos < nx) (hp : pos < s.size) (hc : (s[pos]).toNat = 32 ∨ (s[pos]).toNat = 9 ∨ (s[pos]).toNat = 13) : ScInv s (pos + 1) line ls nx false acc := by
  refine ⟨by omega, by have := h.hl; omega, by have := h.h1; omega, h.h2, by simp, fun j h1 h2 => by omega, by have := h.h5; omega, fun l e h' => ?_⟩
  have e1 : nextP s (pos + 1) nx false = pos + 1 := by simp [nextP]; omega
  have e2 : nextP s pos nx false = pos := by simp [nextP]; omega
  have := h.h1
  rw [e1] at h'
  refine h.go l e ?_
  rw [e2]
  refine .blank hp hc ?_
  have e3 : pos + 1 - ls + 1 = pos - ls + 1 + 1 := by omega
  rwa [e3] at h'
theorem inv_hash (h : ScInv s pos line ls nx false acc) (hn : ¬ pos < nx) (hp : pos < s.size) (hc : (s[pos]).toNat = 35) : ScInv s (pos + 1) line ls nx true acc := by
  refine ⟨by omega, by have := h.hl; omega, by have := h.h1; omega, h.h2, fun _ => by omega, fun j h1 h2 => by omega, by have := h.h5; omega, fun l e h' => ?_⟩
  have e0 : skip s pos = skip s (pos + 1) := skip_go hp (by omega)
  have e1 : nextP s (pos + 1) nx true = skip s pos := by simp [nextP, e0]
  have e2 : nextP s pos nx false = pos := by simp [nextP]; omega
  have := h.h1
  have hge := skip_ge s _ pos rfl
  rw [e1] at h'
  refine h.go l e ?_
  rw [e2]
  refine .hash hp hc ?_
  have e3 : pos - ls + 1 + (skip s pos - pos) = skip s pos - ls + 1 := by omega
  rwa [e3]
theorem inv_bad (h : ScInv s pos line ls nx false acc) (hn : ¬ pos < nx) (hp : pos < s.size) (hc : ¬ (s[pos]).toNat = 10 ∧ ¬ (s[pos]).toNat = 32 ∧ ¬ (s[pos]).toNat = 9 ∧ ¬ (s[pos]).toNat = 13 ∧ ¬ (s[pos]).toNat = 35) (hw : wordOf (s.extract pos s.size) = none) :
    Sc s 0 1 1 (acc ++ []) (some (line, pos - ls + 1)) := by
  have e2 : nextP s pos nx false = pos := by simp [nextP]; omega
  refine h.go [] _ ?_
  rw [e2]
  exact .bad hp hc hw
theorem inv_tok {k v : Int} {n : Nat} (h : ScInv s pos line ls nx false acc) (hn : ¬ pos < nx) (hp : pos < s.size) (hc : ¬ (s[pos]).toNat = 10 ∧ ¬ (s[pos]).toNat = 32 ∧ ¬ (s[pos]).toNat = 9 ∧ ¬ (s[pos]).toNat = 13 ∧ ¬ (s[pos]).toNat = 35) (hw : wordOf (s.extract pos s.size) = some (k, n, v)) :
    pos + n ≤ s.size ∧ ScInv s (pos + 1) line ls (pos + n) false (acc ++ [⟨k, s.extract pos (pos + n), v, line, pos - ls + 1⟩]) := by
  obtain ⟨w0, w1, w2⟩ := wordOf_ascii hw
  rw [tail_size] at w1
  refine ⟨by omega, ⟨by omega, by have := h.hl; omega, by have := h.h1; omega, by omega, by simp, fun j h1 h2 => ?_, by have := h.h5; simp; omega, fun l e h' => ?_⟩⟩
  · obtain ⟨a, b⟩ := w2 (j - pos) (by omega)
    rw [tail_get] at b
    have e : pos + (j - pos) = j := by omega
    simp only [e] at b
    exact ⟨by omega, b⟩
  · have e1 : nextP s (pos + 1) (pos + n) false = pos + n := by simp [nextP]; omega
    have e2 : nextP s pos nx false = pos := by simp [nextP]; omega
    have := h.h1
    rw [e1] at h'
    rw [List.append_assoc]
    refine h.go _ e ?_
    rw [e2]
    refine .tok hp hc hw ?_
    have e3 : pos + n - ls + 1 = pos - ls + 1 + n := by omega
    rwa [e3] at h'
end
end Go.Proofs.YtekdchhengcfoaaDoor
