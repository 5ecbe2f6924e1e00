/- Where the words of a scan stand: lines, columns, what lies between. No program's text. -/
import Derived.Test.YtekdchhengcfoaaDoorRows
import Derived.Test.YtekdchhengcfoaaDoorScanU
namespace Go.Proofs.YtekdchhengcfoaaDoor
open Go.RowKit
set_option linter.unusedVariables false
set_option linter.unusedSimpArgs false
theorem sign_plain : ∀ p ∈ signsB, p.data.toList.all (fun b => !(b.toNat == 10 || b.toNat == 32 || b.toNat == 9 || b.toNat == 13 || b.toNat == 35)) = true := by decide +kernel
theorem wordOf_plain {t : ByteArray} {k v : Int} {n : Nat} (h : wordOf t = some (k, n, v)) : ∀ j, j < n → ∃ h : j < t.size, ¬ (t[j]).toNat = 10 ∧ ¬ (t[j]).toNat = 32 ∧ ¬ (t[j]).toNat = 9 ∧ ¬ (t[j]).toNat = 13 ∧ ¬ (t[j]).toNat = 35 := by
  unfold wordOf at h
  split at h
  · rename_i h0
    split at h
    · rename_i h1
      have key : n = runFrom isLod t 0 := by
        split at h
        · simp only [Option.some.injEq, Prod.mk.injEq] at h; exact h.2.1.symm
        · split at h
          · simp only [Option.some.injEq, Prod.mk.injEq] at h; exact h.2.1.symm
          · cases h
      subst key
      exact fun j hj => by
        obtain ⟨h2, h3, h4⟩ := runFrom_all isLod t _ 0 rfl j (by omega) hj
        refine ⟨h2, ?_⟩
        simp [isLod, isLet, isDig] at h4
        omega
    · split at h
      · rename_i h1 h2
        have key : n = runFrom isDig t 0 := by
          split at h
          · cases h
          · simp only [Option.some.injEq, Prod.mk.injEq] at h; exact h.2.1.symm
        subst key
        exact fun j hj => by
          obtain ⟨h2, h3, h4⟩ := runFrom_all isDig t _ 0 rfl j (by omega) hj
          refine ⟨h2, ?_⟩
          simp [isDig] at h4
          omega
      · split at h
        · rename_i h3
          simp only [Option.some.injEq, Prod.mk.injEq] at h
          obtain ⟨_, rfl, _⟩ := h
          refine fun j hj => ?_
          have hjt : j < t.size := Nat.lt_of_lt_of_le hj (signFrom_le t 0)
          refine ⟨hjt, ?_⟩
          rcases signFromL_of t (signsB.drop 0) with h4 | ⟨p, hp, h5, h6⟩
          · unfold signFrom at h3; omega
          · have hp' : p ∈ signsB := by simpa using hp
            have ha := sign_plain p hp'
            rw [List.all_eq_true] at ha
            have hx : t.extract 0 p.size = p := by
              simp only [hpB, Bool.and_eq_true, beq_iff_eq] at h5
              exact toList_inj h5.2
            have hjp : j < p.size := by unfold signFrom at hj; omega
            have hb := ha (p.data.toList[j]'hjp) (List.getElem_mem _)
            have e1 : p.data.toList[j]'hjp = p[j] := rfl
            have e2 : p[j] = t[j] := by
              have h8 : (t.extract 0 p.size)[j]'(by rw [hx]; exact hjp) = t[j] := by
                rw [ByteArray.getElem_extract]; congr 1; omega
              rw [← h8]
              congr 1
              exact hx.symm
            rw [e1, e2] at hb
            simp at hb
            omega
        · cases h
  · cases h
/-- How many bytes 10 there are among n from a on. -/
def nlAt (s : ByteArray) (i : Nat) : Nat := if h : i < s.size then (if (s[i]).toNat = 10 then 1 else 0) else 0
def cnt (s : ByteArray) : Nat → Nat → Nat
  | _, 0 => 0
  | a, n + 1 => nlAt s a + cnt s (a + 1) n
theorem cnt_add (s : ByteArray) : ∀ (m a n : Nat), cnt s a (m + n) = cnt s a m + cnt s (a + m) n
  | 0, a, n => by simp [cnt]
  | m + 1, a, n => by
    have e : m + 1 + n = (m + n) + 1 := by omega
    rw [e, cnt, cnt, cnt_add s m (a + 1) n]
    have e2 : a + 1 + m = a + (m + 1) := by omega
    rw [e2]
    omega
theorem cnt_zero (s : ByteArray) : ∀ (n a : Nat), (∀ j, j < n → nlAt s (a + j) = 0) → cnt s a n = 0
  | 0, _, _ => rfl
  | n + 1, a, h => by
    rw [cnt, cnt_zero s n (a + 1) fun j hj => by have := h (j + 1) (by omega); rwa [show a + 1 + j = a + (j + 1) by omega]]
    have := h 0 (by omega)
    simpa using this
theorem nlAt_yes {s : ByteArray} {i : Nat} (h : i < s.size) (h2 : (s[i]).toNat = 10) : nlAt s i = 1 := by unfold nlAt; rw [dif_pos h, if_pos h2]
theorem nlAt_no {s : ByteArray} {i : Nat} (h : i < s.size) (h2 : ¬ (s[i]).toNat = 10) : nlAt s i = 0 := by unfold nlAt; rw [dif_pos h, if_neg h2]
/-- The byte at p stands in that line, at that column. -/
def Place (s : ByteArray) (line col p : Nat) : Prop := ∃ ls, ls ≤ p ∧ p ≤ s.size ∧ col = p - ls + 1 ∧ line = 1 + cnt s 0 ls ∧ (0 < ls → nlAt s (ls - 1) = 1) ∧ cnt s ls (p - ls) = 0
/-- Reading blanks and remarks: is a remark open behind n bytes? none: there was something else. -/
def gapS (s : ByteArray) : Nat → Nat → Bool → Option Bool
  | 0, _, r => some r
  | n + 1, a, r => if h : a < s.size then
      (if (s[a]).toNat = 10 then gapS s n (a + 1) false
       else if (s[a]).toNat = 35 then gapS s n (a + 1) true
       else if r = true ∨ (s[a]).toNat = 32 ∨ (s[a]).toNat = 9 ∨ (s[a]).toNat = 13 then gapS s n (a + 1) r else none)
    else none
theorem gapS_add (s : ByteArray) : ∀ (m a n : Nat) (r : Bool), gapS s (m + n) a r = (gapS s m a r).bind (gapS s n (a + m))
  | 0, a, n, r => by simp [gapS]
  | m + 1, a, n, r => by
    have e : m + 1 + n = (m + n) + 1 := by omega
    have e2 : a + (m + 1) = a + 1 + m := by omega
    rw [e, gapS, gapS, e2]
    split
    · split
      · exact gapS_add s m (a + 1) n _
      · split
        · exact gapS_add s m (a + 1) n _
        · split
          · exact gapS_add s m (a + 1) n _
          · rfl
    · rfl
theorem gapS_rem (s : ByteArray) : ∀ (n a : Nat), (∀ j, j < n → ∃ h : a + j < s.size, ¬ (s[a + j]).toNat = 10) → gapS s n a true = some true
  | 0, _, _ => rfl
  | n + 1, a, h => by
    obtain ⟨h0, h1⟩ := h 0 (by omega)
    simp only [Nat.add_zero] at h0 h1
    have ih := gapS_rem s n (a + 1) fun j hj => by
      obtain ⟨h2, h3⟩ := h (j + 1) (by omega)
      have e : a + 1 + j = a + (j + 1) := by omega
      exact ⟨by omega, by simpa [e] using h3⟩
    rw [gapS, dif_pos h0, if_neg h1, ih]
    simp
theorem skip_bytes (s : ByteArray) : ∀ (k pos : Nat), s.size - pos = k → ∀ j, pos ≤ j → j < skip s pos → ∃ h : j < s.size, ¬ (s[j]).toNat = 10
  | 0, pos, hk, j, h1, h2 => by rw [skip_end (by omega)] at h2; omega
  | k + 1, pos, hk, j, h1, h2 => by
    have hp : pos < s.size := by omega
    by_cases hn : (s[pos]).toNat = 10
    · rw [skip_stop hp hn] at h2; omega
    · rw [skip_go hp hn] at h2
      rcases Nat.eq_or_lt_of_le h1 with rfl | h3
      · exact ⟨hp, hn⟩
      · exact skip_bytes s k (pos + 1) (by omega) j (by omega) h2
theorem skip_at (s : ByteArray) : ∀ (k pos : Nat), s.size - pos = k → ∀ h : skip s pos < s.size, (s[skip s pos]).toNat = 10
  | 0, pos, hk, h => by
    have e := skip_end (s := s) (pos := pos) (by omega)
    rw [e] at h; omega
  | k + 1, pos, hk, h => by
    have hp : pos < s.size := by omega
    by_cases hn : (s[pos]).toNat = 10
    · have e := skip_stop hp hn
      simp only [e]; exact hn
    · have e := skip_go hp hn
      simp only [e]
      exact skip_at s k (pos + 1) (by omega) (by rw [← e]; exact h)
/-- What holds between words: where one stands, and what lies behind the last one. -/
def Mid (s : ByteArray) (last pos : Nat) : Prop := last ≤ pos ∧ ∃ r, gapS s (pos - last) last false = some r ∧ (r = true → ∀ h : pos < s.size, (s[pos]).toNat = 10)
def Placed (s : ByteArray) : Nat → List Tok → Prop
  | last, [] => last ≤ s.size ∧ ∃ r, gapS s (s.size - last) last false = some r
  | last, t :: l => ∃ p, last ≤ p ∧ Place s t.l t.c p ∧ 1 ≤ t.s.size ∧ p + t.s.size ≤ s.size ∧ t.s = s.extract p (p + t.s.size) ∧ (∃ r, gapS s (p - last) last false = some r) ∧ Placed s (p + t.s.size) l
theorem Place.step {s : ByteArray} {line col p : Nat} (h : Place s line col p) (hp : p < s.size) (hn : ¬ (s[p]).toNat = 10) : Place s line (col + 1) (p + 1) := by
  obtain ⟨ls, h1, h2, h3, h4, h5, h6⟩ := h
  refine ⟨ls, by omega, by omega, by omega, h4, h5, ?_⟩
  have e : p + 1 - ls = (p - ls) + 1 := by omega
  have e2 : ls + (p - ls) = p := by omega
  rw [e, cnt_add, h6, e2, cnt, cnt, nlAt_no hp hn]
theorem Place.steps {s : ByteArray} : ∀ (n : Nat) {line col p : Nat}, Place s line col p → (∀ j, j < n → ∃ h : p + j < s.size, ¬ (s[p + j]).toNat = 10) → Place s line (col + n) (p + n)
  | 0, _, _, _, h, _ => h
  | n + 1, line, col, p, h, hb => by
    obtain ⟨h0, h1⟩ := hb 0 (by omega)
    have := Place.steps n (h.step h0 h1) fun j hj => by
      obtain ⟨h2, h3⟩ := hb (j + 1) (by omega)
      have e : p + 1 + j = p + (j + 1) := by omega
      exact ⟨by omega, by simpa [e] using h3⟩
    rwa [show col + (n + 1) = col + 1 + n by omega, show p + (n + 1) = p + 1 + n by omega]
theorem Place.newline {s : ByteArray} {line col p : Nat} (h : Place s line col p) (hp : p < s.size) (hn : (s[p]).toNat = 10) : Place s (line + 1) 1 (p + 1) := by
  obtain ⟨ls, h1, h2, h3, h4, h5, h6⟩ := h
  refine ⟨p + 1, Nat.le_refl _, by omega, by omega, ?_, fun _ => by simpa using nlAt_yes hp hn, by simp [cnt]⟩
  have e : p + 1 = ls + ((p - ls) + 1) := by omega
  have e2 : ls + (p - ls) = p := by omega
  rw [e, cnt_add, cnt_add]
  simp only [Nat.zero_add]
  rw [h6, e2, cnt, cnt, nlAt_yes hp hn]
  omega
theorem Mid.more {s : ByteArray} {last pos n : Nat} {r r' : Bool} (h1 : last ≤ pos) (h2 : gapS s (pos - last) last false = some r) (h3 : gapS s n pos r = some r') : gapS s (pos + n - last) last false = some r' := by
  have e : pos + n - last = (pos - last) + n := by omega
  have e2 : last + (pos - last) = pos := by omega
  rw [e, gapS_add, h2, Option.bind_some, e2, h3]
theorem placed_of {s : ByteArray} {pos line col : Nat} {l : List Tok} {e : Option (Nat × Nat)} (h : Sc s pos line col l e) : ∀ last, pos ≤ s.size → Place s line col pos → Mid s last pos →
    (e = none → Placed s last l) ∧ (∀ a b, e = some (a, b) → ∃ p, p < s.size ∧ Place s a b p) := by
  induction h with
  | @fin pos line col h0 =>
    rintro last hs hpl ⟨h1, r, h2, h3⟩
    obtain rfl : pos = s.size := by omega
    exact ⟨fun _ => ⟨h1, r, h2⟩, fun a b h => by cases h⟩
  | @nl pos line col l e h0 hc _ ih =>
    rintro last hs hpl ⟨h1, r, h2, h3⟩
    refine ih last (by omega) (hpl.newline h0 hc) ⟨by omega, false, Mid.more h1 h2 (n := 1) ?_, fun h => by cases h⟩
    rw [gapS, dif_pos h0, if_pos hc]; rfl
  | @blank pos line col l e h0 hc _ ih =>
    rintro last hs hpl ⟨h1, r, h2, h3⟩
    have hr : r = false := by
      cases r
      · rfl
      · have := h3 rfl h0; omega
    subst hr
    refine ih last (by omega) (hpl.step h0 (by omega)) ⟨by omega, false, Mid.more h1 h2 (n := 1) ?_, fun h => by cases h⟩
    rw [gapS, dif_pos h0, if_neg (by omega), if_neg (by omega), if_pos (.inr hc)]; rfl
  | @hash pos line col l e h0 hc _ ih =>
    rintro last hs hpl ⟨h1, r, h2, h3⟩
    have hg := skip_ge s _ pos rfl
    have hl := skip_le s _ pos rfl hs
    have hb := skip_bytes s _ pos rfl
    have hbj : ∀ j, j < skip s pos - pos → ∃ h : pos + j < s.size, ¬ (s[pos + j]).toNat = 10 := fun j hj => hb (pos + j) (by omega) (by omega)
    have e1 : skip s pos = pos + (skip s pos - pos) := by omega
    have hpl2 := hpl.steps (skip s pos - pos) hbj
    rw [← e1] at hpl2
    refine ih last hl hpl2 ⟨by omega, ?_⟩
    have hlt : pos < skip s pos := by
      rw [skip_go h0 (by omega)]
      exact skip_ge s _ (pos + 1) rfl
    refine ⟨true, ?_, fun _ h => skip_at s _ pos rfl h⟩
    have hm := Mid.more h1 h2 (n := skip s pos - pos) (r' := true) (by
      have e2 : skip s pos - pos = (skip s pos - (pos + 1)) + 1 := by omega
      rw [e2, gapS, dif_pos h0, if_neg (by omega), if_pos hc]
      exact gapS_rem s _ (pos + 1) fun j hj => hb (pos + 1 + j) (by omega) (by omega))
    rwa [← e1] at hm
  | @bad pos line col h0 hc hw =>
    rintro last hs hpl ⟨h1, r, h2, h3⟩
    exact ⟨(fun h => by cases h), (fun a b h => by cases h; exact ⟨pos, h0, hpl⟩)⟩
  | @tok pos line col n k v l e h0 hc hw _ ih =>
    rintro last hs hpl ⟨h1, r, h2, h3⟩
    obtain ⟨a0, a1, _⟩ := wordOf_ascii hw
    rw [tail_size] at a1
    have hsz : (s.extract pos (pos + n)).size = n := by rw [ByteArray.size_extract]; omega
    have hb := wordOf_plain hw
    have hbj : ∀ j, j < n → ∃ h : pos + j < s.size, ¬ (s[pos + j]).toNat = 10 := fun j hj => by
      obtain ⟨h5, h6, _⟩ := hb j hj
      rw [tail_get] at h6
      exact ⟨by omega, h6⟩
    have := ih (pos + n) (by omega) (hpl.steps n hbj) ⟨Nat.le_refl _, false, by simp [gapS], fun h => by cases h⟩
    refine ⟨fun he => ⟨pos, h1, hpl, by simp only [hsz]; omega, by simp only [hsz]; omega, by simp only [hsz], ⟨r, h2⟩, ?_⟩, this.2⟩
    simp only [hsz]
    exact this.1 he
theorem placed_scan {s : ByteArray} {l : List Tok} {e : Option (Nat × Nat)} (h : Sc s 0 1 1 l e) : (e = none → Placed s 0 l) ∧ (∀ a b, e = some (a, b) → ∃ p, p < s.size ∧ Place s a b p) :=
  placed_of h 0 (Nat.zero_le _) ⟨0, Nat.le_refl _, Nat.zero_le _, rfl, rfl, fun h => absurd h (by omega), rfl⟩ ⟨Nat.le_refl _, false, rfl, fun h => by cases h⟩
end Go.Proofs.YtekdchhengcfoaaDoor
