/- Blanks between words; what is put behind a text. No program's text. -/
import Derived.Test.YtekdchhengcfoaaDoorRows
import Derived.Test.YtekdchhengcfoaaDoorScanY
namespace Go.Proofs.YtekdchhengcfoaaDoor
open Go.RowKit
set_option linter.unusedVariables false
set_option linter.unusedSimpArgs false
/-- Reading a list of bytes as blanks and remarks. -/
def gapL : List UInt8 → Bool → Option Bool
  | [], r => some r
  | b :: l, r => if b.toNat = 10 then gapL l false else if b.toNat = 35 then gapL l true else if r = true ∨ b.toNat = 32 ∨ b.toNat = 9 ∨ b.toNat = 13 then gapL l r else none
theorem gapL_open : ∀ l : List UInt8, gapL l true = some false → ∃ x y, l = x ++ 10 :: y ∧ (∀ b ∈ x, ¬ b.toNat = 10) ∧ gapL y false = some false
  | [], h => by simp [gapL] at h
  | b :: l, h => by
    rw [gapL] at h
    by_cases h1 : b.toNat = 10
    · rw [if_pos h1] at h
      have hb : b = 10 := by
        apply UInt8.toNat_inj.1
        rw [h1]; rfl
      exact ⟨[], l, by rw [hb]; rfl, fun b hb => (by cases hb), h⟩
    · rw [if_neg h1] at h
      have h' : gapL l true = some false := by
        split at h
        · exact h
        · rwa [if_pos (.inl rfl)] at h
      obtain ⟨x, y, rfl, h2, h3⟩ := gapL_open l h'
      exact ⟨b :: x, y, rfl, fun c hc => (by rcases List.mem_cons.1 hc with rfl | hc <;> first | exact h1 | exact h2 c hc), h3⟩
theorem skip_list (a x y : List UInt8) (h : ∀ b ∈ x, ¬ b.toNat = 10) : skip (bytes (a ++ (x ++ 10 :: y))) a.length = a.length + x.length := by
  have hsz : (bytes (a ++ (x ++ 10 :: y))).size = a.length + x.length + 1 + y.length := by rw [bytes_size]; simp; omega
  rw [skip_many x.length a.length fun k hk => by
    refine ⟨by omega, ?_⟩
    rw [bytes_get, List.getElem_append_right (by omega), List.getElem_append_left (by omega)]
    exact h _ (List.getElem_mem _)]
  refine skip_stop (by omega) ?_
  rw [bytes_get, List.getElem_append_right (by omega), List.getElem_append_right (by omega)]
  simp
theorem gap_sc : ∀ (n : Nat) (g : List UInt8), g.length ≤ n → gapL g false = some false → ∀ (a p : List UInt8) (line col : Nat), ∃ line2 col2, ∀ l e, Sc (bytes (a ++ (g ++ p))) (a.length + g.length) line2 col2 l e → Sc (bytes (a ++ (g ++ p))) a.length line col l e
  | _, [], _, _ => fun a p line col => ⟨line, col, fun l e h => by simpa using h⟩
  | 0, b :: g, hn, _ => by simp at hn
  | n + 1, b :: g, hn, h => by
    intro a p line col
    have hlt : a.length < (bytes (a ++ (b :: g ++ p))).size := by rw [bytes_size]; simp only [List.length_append, List.length_cons]; omega
    have h0 : (bytes (a ++ (b :: g ++ p)))[a.length]'hlt = b := bytes_at2 a (b :: g ++ p) (by simp) hlt
    have hng : g.length ≤ n := by simpa using hn
    have e1 : a ++ (b :: g ++ p) = (a ++ [b]) ++ (g ++ p) := by simp
    have e2 : (a ++ [b]).length = a.length + 1 := by simp
    have e3 : a.length + (b :: g).length = (a ++ [b]).length + g.length := by simp; omega
    rw [gapL] at h
    by_cases h1 : b.toNat = 10
    · rw [if_pos h1] at h
      obtain ⟨l2, c2, ih⟩ := gap_sc n g hng h (a ++ [b]) p (line + 1) 1
      refine ⟨l2, c2, fun l e hs => .nl hlt (by rw [h0]; exact h1) ?_⟩
      rw [e1, e3] at hs
      have := ih l e hs
      rw [← e1, e2] at this
      exact this
    · rw [if_neg h1] at h
      by_cases h2 : b.toNat = 35
      · rw [if_pos h2] at h
        obtain ⟨x, y, rfl, h3, h4⟩ := gapL_open g h
        have hyn : y.length ≤ n := by simp at hng; omega
        have hb : ∀ c ∈ b :: x, ¬ c.toNat = 10 := fun c hc => (by rcases List.mem_cons.1 hc with rfl | hc <;> first | exact h1 | exact h3 c hc)
        have e5 : a ++ (b :: (x ++ 10 :: y) ++ p) = a ++ (b :: x ++ 10 :: (y ++ p)) := by simp
        have hsk := skip_list a (b :: x) (y ++ p) hb
        have e6 : a ++ (b :: x ++ 10 :: (y ++ p)) = (a ++ (b :: x)) ++ (10 :: (y ++ p)) := by simp
        have e7 : a ++ (b :: x ++ 10 :: (y ++ p)) = (a ++ (b :: x) ++ [10]) ++ (y ++ p) := by simp
        have e8 : (a ++ (b :: x)).length = a.length + (b :: x).length := by simp
        have e9 : (a ++ (b :: x) ++ [10]).length = a.length + (b :: x).length + 1 := by simp; omega
        obtain ⟨l2, c2, ih⟩ := gap_sc n y hyn h4 (a ++ (b :: x) ++ [10]) p (line + 1) 1
        refine ⟨l2, c2, fun l e hs => .hash hlt (by rw [h0]; exact h2) ?_⟩
        simp only [e5] at hs ⊢
        rw [hsk]
        have hlt2 : a.length + (b :: x).length < (bytes (a ++ (b :: x ++ 10 :: (y ++ p)))).size := by rw [bytes_size]; simp only [List.length_append, List.length_cons]; omega
        refine .nl hlt2 ?_ ?_
        · have := bytes_at2 (a ++ (b :: x)) (10 :: (y ++ p)) (by simp) (by rw [bytes_size]; simp)
          simp only [e8, ← e6] at this
          rw [this]; rfl
        · have hs' := ih l e (by rw [← e7, e9]; rw [show a.length + (b :: x).length + 1 + y.length = a.length + (b :: (x ++ 10 :: y)).length by simp; omega]; exact hs)
          rw [← e7, e9] at hs'
          exact hs'
      · rw [if_neg h2] at h
        split at h
        · rename_i h3
          have h3' : b.toNat = 32 ∨ b.toNat = 9 ∨ b.toNat = 13 := by simpa using h3
          obtain ⟨l2, c2, ih⟩ := gap_sc n g hng h (a ++ [b]) p line (col + 1)
          refine ⟨l2, c2, fun l e hs => .blank hlt (by rw [h0]; exact h3') ?_⟩
          rw [e1, e3] at hs
          have := ih l e hs
          rw [← e1, e2] at this
          exact this
        · cases h
def sepL : Nat → List UInt8
  | 0 => [32]
  | 1 => [10]
  | 2 => [9, 32, 13]
  | 3 => [32, 35, 32, 97, 32, 49, 32, 36, 32, 38, 10]
  | 4 => [10, 10, 35, 10]
  | _ => [32, 32]
theorem sep_gap : ∀ k, gapL (sepL k) false = some false
  | 0 | 1 | 2 | 3 | 4 => by decide
  | _ + 5 => by simp [sepL, gapL]
theorem sep_blank : ∀ k, ∃ b r, sepL k = b :: r ∧ Blnk b
  | 0 => ⟨_, _, rfl, .inr (.inl rfl)⟩
  | 1 => ⟨_, _, rfl, .inl rfl⟩
  | 2 => ⟨_, _, rfl, .inr (.inr (.inl rfl))⟩
  | 3 => ⟨_, _, rfl, .inr (.inl rfl)⟩
  | 4 => ⟨_, _, rfl, .inl rfl⟩
  | _ + 5 => ⟨_, _, rfl, .inr (.inl rfl)⟩
theorem sep_len : ∀ k, (sepL k).length ≤ 11
  | 0 | 1 | 2 | 3 | 4 => by decide
  | _ + 5 => by simp [sepL]
/-- Words with something between. -/
def ws (K : Nat → Nat) : List Tok → Nat → List UInt8
  | [], _ => []
  | t :: l, i => t.s.data.toList ++ (sepL (K i) ++ ws K l (i + 1))
theorem alike_cons {t t' : Tok} {l l' : List Tok} (h : t.k = t'.k ∧ t.s = t'.s ∧ t.n = t'.n) (hl : Alike l l') : Alike (t :: l) (t' :: l') := by
  refine ⟨by simp [hl.1], fun i h1 h2 => ?_⟩
  cases i with
  | zero => exact h
  | succ i => exact hl.2 i (by simpa using h1) (by simpa using h2)
theorem sc_ws (K : Nat → Nat) : ∀ (l : List Tok) (i : Nat) (a : List UInt8) (line col : Nat), (∀ t ∈ l, WordT t) → ∃ l', Alike l l' ∧ Sc (bytes (a ++ ws K l i)) a.length line col l' none
  | [], i, a, line, col, _ => ⟨[], ⟨rfl, fun i h => absurd h (Nat.not_lt_zero _)⟩, .fin (by simp [ws, bytes_size])⟩
  | t :: l, i, a, line, col, h => by
    have hl : t.s.data.toList.length = t.s.size := rfl
    have e1 : a ++ ws K (t :: l) i = (a ++ t.s.data.toList) ++ (sepL (K i) ++ ws K l (i + 1)) := by simp [ws]
    have e2 : a ++ ws K (t :: l) i = (a ++ t.s.data.toList ++ sepL (K i)) ++ ws K l (i + 1) := by simp [ws]
    have e3 : (a ++ t.s.data.toList).length = a.length + t.s.size := by simp [hl]
    obtain ⟨l2, c2, hg⟩ := gap_sc _ (sepL (K i)) (Nat.le_refl _) (sep_gap _) (a ++ t.s.data.toList) (ws K l (i + 1)) line (col + t.s.size)
    obtain ⟨l', hal, hs⟩ := sc_ws K l (i + 1) (a ++ t.s.data.toList ++ sepL (K i)) l2 c2 fun u hu => h u (List.mem_cons_of_mem _ hu)
    have e4 : (a ++ t.s.data.toList ++ sepL (K i)).length = (a ++ t.s.data.toList).length + (sepL (K i)).length := List.length_append
    rw [← e2, e1, e4] at hs
    have h3 := hg _ _ hs
    rw [e3] at h3
    refine ⟨⟨t.k, t.s, t.n, line, col⟩ :: l', alike_cons ⟨rfl, rfl, rfl⟩ hal, ?_⟩
    have e5 : a ++ ws K (t :: l) i = a ++ (t.s.data.toList ++ (sepL (K i) ++ ws K l (i + 1))) := by simp [ws]
    rw [e5]
    refine sc_tok (h t List.mem_cons_self) (fun b r hb => ?_) ?_
    · obtain ⟨b', r', hb', hbl⟩ := sep_blank (K i)
      rw [hb'] at hb
      simp only [List.cons_append, List.cons.injEq] at hb
      rw [← hb.1]; exact hbl
    · rw [← e5, e1]; exact h3
/-- Every scan comes to an end. -/
theorem sc_total (s : ByteArray) : ∀ (n pos line col : Nat), s.size - pos ≤ n → ∃ l e, Sc s pos line col l e
  | n, pos, line, col, hn => by
    by_cases hp : pos < s.size
    · cases n with
      | zero => omega
      | succ n =>
        by_cases h10 : (s[pos]).toNat = 10
        · obtain ⟨l, e, h⟩ := sc_total s n (pos + 1) (line + 1) 1 (by omega)
          exact ⟨l, e, .nl hp h10 h⟩
        by_cases hb : (s[pos]).toNat = 32 ∨ (s[pos]).toNat = 9 ∨ (s[pos]).toNat = 13
        · obtain ⟨l, e, h⟩ := sc_total s n (pos + 1) line (col + 1) (by omega)
          exact ⟨l, e, .blank hp hb h⟩
        by_cases h35 : (s[pos]).toNat = 35
        · have hg : pos + 1 ≤ skip s pos := by
            rw [skip_go hp h10]
            exact skip_ge s _ (pos + 1) rfl
          obtain ⟨l, e, h⟩ := sc_total s n (skip s pos) line (col + (skip s pos - pos)) (by omega)
          exact ⟨l, e, .hash hp h35 h⟩
        have hc : ¬ (s[pos]).toNat = 10 ∧ ¬ (s[pos]).toNat = 32 ∧ ¬ (s[pos]).toNat = 9 ∧ ¬ (s[pos]).toNat = 13 ∧ ¬ (s[pos]).toNat = 35 := by omega
        rcases hw : wordOf (s.extract pos s.size) with _ | ⟨k, m, v⟩
        · exact ⟨_, _, .bad hp hc hw⟩
        · have := (wordOf_ascii hw).1
          obtain ⟨l, e, h⟩ := sc_total s n (pos + m) line (col + m) (by omega)
          exact ⟨_, _, .tok hp hc hw h⟩
    · exact ⟨[], none, .fin hp⟩
theorem sc_line {s : ByteArray} {pos line col : Nat} {l : List Tok} {e : Option (Nat × Nat)} (h : Sc s pos line col l e) : ∀ a b, e = some (a, b) → line ≤ a := by
  induction h with
  | fin => intro a b h; cases h
  | nl _ _ _ ih => intro a b h; have := ih a b h; omega
  | blank _ _ _ ih => exact ih
  | hash _ _ _ ih => exact ih
  | bad => intro a b h; cases h; exact Nat.le_refl _
  | tok _ _ _ _ ih => exact ih
theorem skip_ext {s s2 : ByteArray} (hs : s.size < s2.size) (hb : ∀ j (h : j < s.size), s2[j] = s[j]) (h10 : (s2[s.size]).toNat = 10) : ∀ (n pos : Nat), s.size - pos = n → pos ≤ s.size → skip s2 pos = skip s pos
  | 0, pos, h, hp => by
    obtain rfl : pos = s.size := by omega
    rw [skip_end (Nat.lt_irrefl _), skip_stop hs h10]
  | n + 1, pos, h, hp => by
    have h1 : pos < s.size := by omega
    have e := hb pos h1
    by_cases hn : (s[pos]).toNat = 10
    · rw [skip_stop h1 hn, skip_stop (by omega) (by rw [e]; exact hn)]
    · rw [skip_go h1 hn, skip_go (by omega) (by rw [e]; exact hn)]
      exact skip_ext hs hb h10 n (pos + 1) (by omega) (by omega)
/-- A text with a byte 10 and more behind it. -/
theorem sc_ext {s s2 : ByteArray} (hs : s.size < s2.size) (hb : ∀ j (h : j < s.size), s2[j] = s[j]) (h10 : (s2[s.size]).toNat = 10) {pos line col : Nat} {l : List Tok} {e : Option (Nat × Nat)} (h : Sc s pos line col l e) :
    pos ≤ s.size → e = none → ∃ l2 e2, Sc s2 pos line col (l ++ l2) e2 ∧ ∀ a b, e2 = some (a, b) → line < a := by
  induction h with
  | @fin pos line col h0 =>
    intro hp _
    obtain rfl : pos = s.size := by omega
    obtain ⟨l2, e2, h2⟩ := sc_total s2 _ (s.size + 1) (line + 1) 1 (Nat.le_refl _)
    exact ⟨l2, e2, .nl hs h10 h2, fun a b h => by have := sc_line h2 a b h; omega⟩
  | @nl pos line col l e h0 hc _ ih =>
    intro hp he
    obtain ⟨l2, e2, h2, h3⟩ := ih (by omega) he
    exact ⟨l2, e2, .nl (by omega) (by rw [hb pos h0]; exact hc) h2, fun a b h => by have := h3 a b h; omega⟩
  | @blank pos line col l e h0 hc _ ih =>
    intro hp he
    obtain ⟨l2, e2, h2, h3⟩ := ih (by omega) he
    exact ⟨l2, e2, .blank (by omega) (by rw [hb pos h0]; exact hc) h2, h3⟩
  | @hash pos line col l e h0 hc _ ih =>
    intro hp he
    obtain ⟨l2, e2, h2, h3⟩ := ih (skip_le s _ pos rfl hp) he
    have hk := skip_ext hs hb h10 _ pos rfl hp
    exact ⟨l2, e2, .hash (by omega) (by rw [hb pos h0]; exact hc) (by rw [hk]; exact h2), h3⟩
  | @bad pos line col h0 hc hw => intro _ he; cases he
  | @tok pos line col n k v l e h0 hc hw _ ih =>
    intro hp he
    obtain ⟨a0, a1, _⟩ := wordOf_ascii hw
    rw [tail_size] at a1
    obtain ⟨l2, e2, h2, h3⟩ := ih (by omega) he
    have hw2 : wordOf (s2.extract pos s2.size) = some (k, n, v) := word_pre hw (by rw [tail_size]; omega) (fun j b c d => by
        rw [tail_get, tail_get]
        exact hb (pos + j) (by rw [tail_size] at b; omega)) (fun hh => by
        rcases Nat.lt_or_ge (pos + n) s.size with h4 | h4
        · exact .inr ⟨by rw [tail_size]; omega, by rw [tail_get, tail_get]; exact hb _ h4⟩
        · left
          have e5 : pos + n = s.size := by omega
          rw [tail_get]
          simp only [e5]
          exact .inl h10)
    have hx : s2.extract pos (pos + n) = s.extract pos (pos + n) := by
      apply ByteArray.ext_getElem
      · rw [ByteArray.size_extract, ByteArray.size_extract]; omega
      · intro i hi hi'
        rw [ByteArray.getElem_extract, ByteArray.getElem_extract]
        rw [ByteArray.size_extract] at hi'
        exact hb _ (by omega)
    have := Sc.tok (s := s2) (pos := pos) (line := line) (col := col) (by omega) (by rw [hb pos h0]; exact hc) hw2 h2
    rw [hx] at this
    exact ⟨l2, e2, this, h3⟩
end Go.Proofs.YtekdchhengcfoaaDoor
