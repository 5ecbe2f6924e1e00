/- A scan reckoned: by fuel, so that it can be run on a text that is written out. No program's text. -/
import Derived.Test.YtekdchhengcfoaaDoorRows
import Derived.Test.YtekdchhengcfoaaDoorScanI
namespace Go.Proofs.YtekdchhengcfoaaDoor
open Go.RowKit
set_option linter.unusedVariables false
set_option linter.unusedSimpArgs false
def runF (p : Int → Bool) (s : ByteArray) : Nat → Nat → Nat
  | 0, pos => pos
  | f + 1, pos => if h : pos < s.size then (if (s[pos]).toNat < 128 ∧ p (s[pos]).toNat = true then runF p s f (pos + 1) else pos) else pos
theorem runF_eq (p : Int → Bool) (s : ByteArray) : ∀ (f pos : Nat), s.size - pos ≤ f → runF p s f pos = runFrom p s pos
  | 0, pos, h => by rw [runFrom_end (by omega)]; rfl
  | f + 1, pos, h => by
    unfold runF
    split
    · rename_i hp
      split
      · rename_i hc
        rw [runFrom_go hp hc, runF_eq p s f (pos + 1) (by omega)]
      · rename_i hc
        rw [runFrom_stop hp hc]
    · rename_i hp
      rw [runFrom_end hp]
def skipF (s : ByteArray) : Nat → Nat → Nat
  | 0, pos => pos
  | f + 1, pos => if h : pos < s.size then (if (s[pos]).toNat = 10 then pos else skipF s f (pos + 1)) else pos
theorem skipF_eq (s : ByteArray) : ∀ (f pos : Nat), s.size - pos ≤ f → skipF s f pos = skip s pos
  | 0, pos, h => by rw [skip_end (by omega)]; rfl
  | f + 1, pos, h => by
    unfold skipF
    split
    · rename_i hp
      split
      · rename_i hc
        rw [skip_stop hp hc]
      · rename_i hc
        rw [skip_go hp hc, skipF_eq s f (pos + 1) (by omega)]
    · rename_i hp
      rw [skip_end hp]
def wordF (t : ByteArray) : Option (Int × Nat × Int) :=
  if h : 0 < t.size then
    if isLet (t[0]).toNat = true then
      (if wordB (t.extract 0 (runF isLod t t.size 0)).toList then some (3, runF isLod t t.size 0, 0) else if runF isLod t t.size 0 ≤ 12 then some (1, runF isLod t t.size 0, 0) else none)
    else if isDig (t[0]).toNat = true then
      (if 18 < runF isDig t t.size 0 ∨ ((t[0]).toNat = 48 ∧ 1 < runF isDig t t.size 0) then none else some (2, runF isDig t t.size 0, numOf (t.extract 0 (runF isDig t t.size 0)).data.toList))
    else (if 0 < signFrom t 0 then some (4, signFrom t 0, 0) else none)
  else none
theorem wordF_eq (t : ByteArray) : wordF t = wordOf t := by
  unfold wordF wordOf
  rw [runF_eq isLod t t.size 0 (by omega), runF_eq isDig t t.size 0 (by omega)]
def scF (s : ByteArray) : Nat → Nat → Nat → Nat → Option (List Tok × Option (Nat × Nat))
  | 0, _, _, _ => none
  | f + 1, pos, line, col =>
    if h : pos < s.size then
      if (s[pos]).toNat = 10 then scF s f (pos + 1) (line + 1) 1
      else if (s[pos]).toNat = 32 ∨ (s[pos]).toNat = 9 ∨ (s[pos]).toNat = 13 then scF s f (pos + 1) line (col + 1)
      else if (s[pos]).toNat = 35 then scF s f (skipF s s.size pos) line (col + (skipF s s.size pos - pos))
      else match wordF (s.extract pos s.size) with
        | none => some ([], some (line, col))
        | some (k, n, v) => match scF s f (pos + n) line (col + n) with
          | none => none
          | some (l, e) => some (⟨k, s.extract pos (pos + n), v, line, col⟩ :: l, e)
    else some ([], none)
theorem scF_sound (s : ByteArray) : ∀ (f pos line col : Nat) (l : List Tok) (e : Option (Nat × Nat)), scF s f pos line col = some (l, e) → Sc s pos line col l e
  | 0, _, _, _, _, _, h => by cases h
  | f + 1, pos, line, col, l, e, h => by
    unfold scF at h
    split at h
    · rename_i hp
      split at h
      · rename_i hc
        exact .nl hp hc (scF_sound s f _ _ _ l e h)
      · rename_i h10
        split at h
        · rename_i hc
          exact .blank hp hc (scF_sound s f _ _ _ l e h)
        · rename_i hb
          split at h
          · rename_i hc
            rw [skipF_eq s s.size pos (by omega)] at h
            exact .hash hp hc (scF_sound s f _ _ _ l e h)
          · rename_i h35
            have hc : ¬ (s[pos]).toNat = 10 ∧ ¬ (s[pos]).toNat = 32 ∧ ¬ (s[pos]).toNat = 9 ∧ ¬ (s[pos]).toNat = 13 ∧ ¬ (s[pos]).toNat = 35 := by omega
            rw [wordF_eq] at h
            split at h
            · rename_i hw
              cases h
              exact .bad hp hc hw
            · rename_i k n v hw
              split at h
              · cases h
              · rename_i l' e' hr
                cases h
                exact .tok hp hc hw (scF_sound s f _ _ _ l' e hr)
    · rename_i hp
      cases h
      exact .fin hp
def sh (l : List UInt8) : ByteArray := ⟨l.toArray⟩
deriving instance DecidableEq for Tok
instance : DecidableEq ByteArray := fun a b => if h : a.data = b.data then isTrue (by cases a; cases b; simp_all) else isFalse (fun e => h (by rw [e]))
theorem sc_t1 : ∃ l, Sc (sh [120, 49, 32, 61, 32, 48, 55]) 0 1 1 l (some (1, 6)) := ⟨[⟨1, sh [120, 49], 0, 1, 1⟩, ⟨4, sh [61], 0, 1, 4⟩], scF_sound _ 9 _ _ _ _ _ (by decide +kernel)⟩
theorem sc_t2 : ∃ l, Sc (sh [38]) 0 1 1 l (some (1, 1)) := ⟨[], scF_sound _ 9 _ _ _ _ _ (by decide +kernel)⟩
theorem sc_t3 : ∃ l, Sc (sh [97, 66]) 0 1 1 l (some (1, 2)) := ⟨[⟨1, sh [97], 0, 1, 1⟩], scF_sound _ 9 _ _ _ _ _ (by decide +kernel)⟩
def awL : List Tok := [⟨1, sh [97], 0, 1, 1⟩, ⟨4, sh [60, 61], 0, 1, 2⟩, ⟨4, sh [45], 0, 1, 4⟩, ⟨1, sh [98], 0, 1, 5⟩, ⟨3, sh [105, 102], 0, 2, 1⟩]
theorem sc_aw : Sc (sh [97, 60, 61, 45, 98, 32, 35, 32, 99, 10, 105, 102]) 0 1 1 awL none := scF_sound _ 20 _ _ _ _ _ (by decide +kernel)
end Go.Proofs.YtekdchhengcfoaaDoor
