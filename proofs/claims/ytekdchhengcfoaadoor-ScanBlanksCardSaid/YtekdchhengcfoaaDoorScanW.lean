/- A word's text, with a blank behind it, is scanned as that word; texts that are made of words and blanks. No program's text. -/
import Derived.Test.YtekdchhengcfoaaDoorRows
import Derived.Test.YtekdchhengcfoaaDoorScanV
namespace Go.Proofs.YtekdchhengcfoaaDoor
open Go.RowKit
set_option linter.unusedVariables false
set_option linter.unusedSimpArgs false
theorem runFrom_is (p : Int → Bool) (t : ByteArray) : ∀ (m a : Nat), (∀ j, a ≤ j → j < a + m → ∃ h : j < t.size, (t[j]).toNat < 128 ∧ p (t[j]).toNat = true) → (∀ h : a + m < t.size, ¬ ((t[a + m]).toNat < 128 ∧ p (t[a + m]).toNat = true)) → runFrom p t a = a + m
  | 0, a, _, h2 => by
    by_cases ha : a < t.size
    · exact runFrom_stop ha (h2 ha)
    · exact runFrom_end ha
  | m + 1, a, h1, h2 => by
    obtain ⟨h3, h4⟩ := h1 a (Nat.le_refl _) (by omega)
    have e : a + (m + 1) = a + 1 + m := by omega
    rw [runFrom_go h3 h4, e]
    refine runFrom_is p t m (a + 1) (fun j hj hj2 => h1 j (by omega) (by omega)) fun h => ?_
    have := h2 (by omega)
    simpa only [e] using this
theorem sign_two : ∀ p ∈ signsB, p.size ≤ 2 := by decide +kernel
theorem runFrom_halt (p : Int → Bool) (t : ByteArray) : ∀ (k a : Nat), t.size - a = k → ∀ h : runFrom p t a < t.size, ¬ ((t[runFrom p t a]).toNat < 128 ∧ p (t[runFrom p t a]).toNat = true)
  | 0, a, hk, h => by
    have e := runFrom_end (p := p) (s := t) (pos := a) (by omega)
    rw [e] at h; omega
  | k + 1, a, hk, h => by
    have ha : a < t.size := by omega
    by_cases hy : (t[a]).toNat < 128 ∧ p (t[a]).toNat = true
    · have e := runFrom_go ha hy
      simp only [e]
      exact runFrom_halt p t k (a + 1) (by omega) (by rw [← e]; exact h)
    · have e := runFrom_stop ha hy
      simp only [e]
      exact hy
def Blnk (b : UInt8) : Prop := b.toNat = 10 ∨ b.toNat = 32 ∨ b.toNat = 9 ∨ b.toNat = 13
theorem ext_same {t t2 : ByteArray} {n m : Nat} (hm : m ≤ n) (h1 : n ≤ t.size) (h2 : n ≤ t2.size) (hb : ∀ j (a : j < t.size) (b : j < t2.size), j < n → t2[j] = t[j]) : t2.extract 0 m = t.extract 0 m := by
  apply ByteArray.ext_getElem
  · rw [ext_size _ _ (by omega), ext_size _ _ (by omega)]
  · intro i hi hi'
    rw [ext_size _ _ (by omega)] at hi
    rw [ByteArray.getElem_extract, ByteArray.getElem_extract]
    simp only [Nat.zero_add]
    exact hb i (by omega) (by omega) (by omega)
theorem signFromL_pre {t t2 : ByteArray} {n : Nat} (h0 : 0 < n) (h1 : n ≤ t.size) (h2 : n ≤ t2.size) (hb : ∀ j (a : j < t.size) (b : j < t2.size), j < n → t2[j] = t[j]) (he : ∀ h : n < t2.size, Blnk t2[n] ∨ ∃ h' : n < t.size, t2[n] = t[n]) :
    ∀ L : List ByteArray, (∀ p ∈ L, p.data.toList.all (fun b => !(b.toNat == 10 || b.toNat == 32 || b.toNat == 9 || b.toNat == 13 || b.toNat == 35)) = true ∧ p.size ≤ 2) → signFromL t L = n → signFromL t2 L = n
  | [], _, h => by simp [signFromL] at h; omega
  | p :: L, hp, h => by
    rw [signFromL] at h ⊢
    by_cases hy : hpB t p = true
    · rw [if_pos hy] at h
      have hy2 : hpB t2 p = true := by
        simp only [hpB, Bool.and_eq_true, decide_eq_true_eq, beq_iff_eq] at hy ⊢
        refine ⟨by omega, ?_⟩
        rw [ext_same (n := n) (by omega) h1 h2 hb]
        exact hy.2
      rw [if_pos hy2]
      exact h
    · rw [if_neg hy] at h
      have hy2 : ¬ hpB t2 p = true := by
        intro h3
        apply hy
        simp only [hpB, Bool.and_eq_true, decide_eq_true_eq, beq_iff_eq] at h3 ⊢
        by_cases hpn : p.size ≤ n
        · refine ⟨by omega, ?_⟩
          rw [← ext_same (n := n) hpn h1 h2 hb]
          exact h3.2
        · have hn2 : n < t2.size := by omega
          have hp2 := (hp p List.mem_cons_self).2
          rcases he hn2 with hbl | ⟨h', hsame⟩
          case inr =>
            refine ⟨by omega, ?_⟩
            rw [← ext_same (t := t) (t2 := t2) (n := n + 1) (m := p.size) (by omega) (by omega) (by omega) (fun j a b hj => by
              rcases Nat.lt_or_ge j n with h5 | h5
              · exact hb j a b h5
              · obtain rfl : j = n := by omega
                exact hsame)]
            exact h3.2
          exfalso
          have hx : t2.extract 0 p.size = p := toList_inj h3.2
          have ha := (hp p List.mem_cons_self).1
          rw [List.all_eq_true] at ha
          have hjp : n < p.size := by omega
          have hbb := ha (p.data.toList[n]'hjp) (List.getElem_mem _)
          have e1 : p.data.toList[n]'hjp = p[n] := rfl
          have e2 : p[n] = t2[n] := by
            have h8 : (t2.extract 0 p.size)[n]'(by rw [hx]; exact hjp) = t2[n] := by
              rw [ByteArray.getElem_extract]; congr 1; omega
            rw [← h8]
            congr 1
            exact hx.symm
          rw [e1, e2] at hbb
          have := hbl
          unfold Blnk at this
          simp at hbb
          omega
      rw [if_neg hy2]
      exact signFromL_pre h0 h1 h2 hb he L (fun q hq => hp q (List.mem_cons_of_mem _ hq)) h
theorem word_pre {t t2 : ByteArray} {k v : Int} {n : Nat} (h : wordOf t = some (k, n, v)) (hn : n ≤ t2.size) (hb : ∀ j (a : j < t.size) (b : j < t2.size), j < n → t2[j] = t[j]) (he : ∀ h : n < t2.size, Blnk t2[n] ∨ ∃ h' : n < t.size, t2[n] = t[n]) : wordOf t2 = some (k, n, v) := by
  obtain ⟨n0, n1, _⟩ := wordOf_ascii h
  have hx : t2.extract 0 n = t.extract 0 n := ext_same (Nat.le_refl _) n1 hn hb
  have h00 : t2[0]'(by omega) = t[0]'(by omega) := hb 0 (by omega) (by omega) n0
  unfold wordOf at h ⊢
  rw [dif_pos (by omega)] at h
  rw [dif_pos (by omega), h00]
  split at h
  · rename_i h1
    rw [if_pos h1]
    have key : n = runFrom isLod t 0 := by
      split at h
      · simp only [Option.some.injEq, Prod.mk.injEq] at h; exact h.2.1.symm
      · split at h
        · simp only [Option.some.injEq, Prod.mk.injEq] at h; exact h.2.1.symm
        · cases h
    have r2 : runFrom isLod t2 0 = n := by
      have := runFrom_is isLod t2 n 0 (fun j _ hj => by
        obtain ⟨h2, h3⟩ := runFrom_all isLod t _ 0 rfl j (by omega) (by omega)
        exact ⟨by omega, by rw [hb j h2 (by omega) (by omega)]; exact h3⟩) (fun hh => by
        have e : 0 + n = n := by omega
        simp only [e] at hh ⊢
        rcases he hh with this | ⟨h', hsame⟩
        · unfold Blnk at this
          simp [isLod, isLet, isDig]
          omega
        · rw [hsame]
          have := runFrom_halt isLod t _ 0 rfl
          simp only [← key] at this
          exact this h')
      rwa [Nat.zero_add] at this
    rw [← key] at h
    rw [r2, hx]
    exact h
  · rename_i h1
    rw [if_neg h1]
    split at h
    · rename_i h2
      rw [if_pos h2]
      have key : n = runFrom isDig t 0 := by
        split at h
        · cases h
        · simp only [Option.some.injEq, Prod.mk.injEq] at h; exact h.2.1.symm
      have r2 : runFrom isDig t2 0 = n := by
        have := runFrom_is isDig t2 n 0 (fun j _ hj => by
          obtain ⟨h2, h3⟩ := runFrom_all isDig t _ 0 rfl j (by omega) (by omega)
          exact ⟨by omega, by rw [hb j h2 (by omega) (by omega)]; exact h3⟩) (fun hh => by
          have e : 0 + n = n := by omega
          simp only [e] at hh ⊢
          rcases he hh with this | ⟨h', hsame⟩
          · unfold Blnk at this
            simp [isDig]
            omega
          · rw [hsame]
            have := runFrom_halt isDig t _ 0 rfl
            simp only [← key] at this
            exact this h')
        rwa [Nat.zero_add] at this
      rw [← key] at h
      rw [r2, hx]
      exact h
    · rename_i h2
      rw [if_neg h2]
      split at h
      · rename_i h3
        simp only [Option.some.injEq, Prod.mk.injEq] at h
        obtain ⟨rfl, h4, rfl⟩ := h
        have e2 : signFrom t2 0 = n := signFromL_pre n0 n1 hn hb he _ (fun p hp => ⟨sign_plain p (by simpa using hp), sign_two p (by simpa using hp)⟩) h4
        rw [e2, if_pos n0]
      · cases h
/-- A word whose text alone is that word. -/
def WordT (t : Tok) : Prop := wordOf t.s = some (t.k, t.s.size, t.n)
theorem sc_words {s : ByteArray} {pos line col : Nat} {l : List Tok} {e : Option (Nat × Nat)} (h : Sc s pos line col l e) : ∀ t ∈ l, WordT t := by
  induction h with
  | fin => intro t ht; cases ht
  | nl _ _ _ ih => exact ih
  | blank _ _ _ ih => exact ih
  | hash _ _ _ ih => exact ih
  | bad => intro t ht; cases ht
  | @tok pos line col n k v l e h0 hc hw _ ih =>
    intro t ht
    rcases List.mem_cons.1 ht with rfl | ht
    · obtain ⟨a0, a1, _⟩ := wordOf_ascii hw
      rw [tail_size] at a1
      have hsz : (s.extract pos (pos + n)).size = n := by rw [ByteArray.size_extract]; omega
      unfold WordT
      simp only [hsz]
      refine word_pre hw (by omega) (fun j b c d => ?_) (fun h => absurd h (by omega))
      rw [ByteArray.getElem_extract, ByteArray.getElem_extract]
    · exact ih t ht
def bytes (l : List UInt8) : ByteArray := ⟨l.toArray⟩
theorem bytes_size (l : List UInt8) : (bytes l).size = l.length := by simp [bytes, ByteArray.size]
theorem bytes_get (l : List UInt8) (j : Nat) (h : j < (bytes l).size) : (bytes l)[j] = l[j]'(by rwa [bytes_size] at h) := rfl
theorem bytes_mid (a x b : List UInt8) : (bytes (a ++ (x ++ b))).extract a.length (a.length + x.length) = bytes x := by
  apply ByteArray.ext_getElem
  · rw [ByteArray.size_extract, bytes_size, bytes_size]; simp only [List.length_append]; omega
  · intro i hi hi'
    rw [ByteArray.getElem_extract, bytes_get, bytes_get]
    rw [bytes_size] at hi'
    rw [List.getElem_append_right (by omega), List.getElem_append_left (by omega)]
    congr 1
    omega
theorem bytes_tail (a x : List UInt8) : (bytes (a ++ x)).extract a.length (bytes (a ++ x)).size = bytes x := by
  have h := bytes_mid a x []
  rw [List.append_nil] at h
  rw [bytes_size, List.length_append]
  exact h
theorem bytes_at2 (a x : List UInt8) (h : 0 < x.length) (h2 : a.length < (bytes (a ++ x)).size) : (bytes (a ++ x))[a.length]'h2 = x[0]'h := by
  rw [bytes_get, List.getElem_append_right (Nat.le_refl _)]
  simp
theorem bytes_data (x : ByteArray) : bytes x.data.toList = x := by
  apply ByteArray.ext; simp [bytes]
theorem word_post {t : Tok} (h : WordT t) (post : List UInt8) (hp : ∀ b r, post = b :: r → Blnk b) : wordOf (bytes (t.s.data.toList ++ post)) = some (t.k, t.s.size, t.n) := by
  have hl : t.s.data.toList.length = t.s.size := rfl
  refine word_pre h (by rw [bytes_size, List.length_append]; omega) (fun j a b c => ?_) (fun hh => ?_)
  · rw [bytes_get, List.getElem_append_left (by omega)]
    rfl
  · rw [bytes_get]
    rw [bytes_size, List.length_append] at hh
    rw [List.getElem_append_right (by omega)]
    rcases post with _ | ⟨b, r⟩
    · exfalso; simp only [List.length_nil] at hh; omega
    · have e : t.s.size - t.s.data.toList.length = 0 := by omega
      simp only [e, List.getElem_cons_zero]
      exact .inl (hp b r rfl)
/-- A word at a place of a text that is written as a list. -/
theorem sc_tok {a post : List UInt8} {t : Tok} {line col : Nat} {l : List Tok} {e : Option (Nat × Nat)} (h : WordT t) (hp : ∀ b r, post = b :: r → Blnk b)
    (hs : Sc (bytes (a ++ (t.s.data.toList ++ post))) (a.length + t.s.size) line (col + t.s.size) l e) : Sc (bytes (a ++ (t.s.data.toList ++ post))) a.length line col (⟨t.k, t.s, t.n, line, col⟩ :: l) e := by
  have hl : t.s.data.toList.length = t.s.size := rfl
  have hw := word_post h post hp
  obtain ⟨n0, n1, _⟩ := wordOf_ascii h
  have hlt : a.length < (bytes (a ++ (t.s.data.toList ++ post))).size := by rw [bytes_size]; simp only [List.length_append]; omega
  have h0 := bytes_at2 a (t.s.data.toList ++ post) (by simp only [List.length_append]; omega) hlt
  obtain ⟨h1, h2⟩ := wordOf_plain hw 0 n0
  rw [bytes_get] at h2
  have hm := bytes_mid a t.s.data.toList post
  rw [bytes_data, hl] at hm
  have := Sc.tok (s := bytes (a ++ (t.s.data.toList ++ post))) (pos := a.length) (line := line) (col := col) (n := t.s.size) (k := t.k) (v := t.n) hlt (by rw [h0]; exact ⟨h2.1, h2.2.1, h2.2.2.1, h2.2.2.2.1, h2.2.2.2.2⟩) (by rw [bytes_tail]; exact hw) hs
  rwa [hm] at this
/-- Words with one blank between. -/
def tl : List Tok → List UInt8
  | [] => []
  | t :: l => 32 :: (t.s.data.toList ++ tl l)
def jn : List Tok → List UInt8
  | [] => []
  | t :: l => t.s.data.toList ++ tl l
def lay : List Tok → Nat → List Tok
  | [], _ => []
  | t :: l, p => ⟨t.k, t.s, t.n, 1, p + 1⟩ :: lay l (p + t.s.size + 1)
theorem tl_blank (l : List Tok) : ∀ b r, tl l = b :: r → Blnk b := by
  intro b r h
  cases l with
  | nil => cases h
  | cons t l => simp only [tl, List.cons.injEq] at h; rw [← h.1]; exact .inr (.inl rfl)
theorem sc_tl : ∀ (l : List Tok) (a : List UInt8), (∀ t ∈ l, WordT t) → Sc (bytes (a ++ tl l)) a.length 1 (a.length + 1) (lay l (a.length + 1)) none
  | [], a, _ => by
    refine .fin ?_
    simp [tl, bytes_size]
  | t :: l, a, h => by
    have hl : t.s.data.toList.length = t.s.size := rfl
    have hlt : a.length < (bytes (a ++ tl (t :: l))).size := by rw [bytes_size]; simp [tl]
    have h0 := bytes_at2 a (tl (t :: l)) (by simp [tl]) hlt
    refine .blank hlt (.inl (by rw [h0]; rfl)) ?_
    have e1 : a ++ tl (t :: l) = (a ++ [32]) ++ (t.s.data.toList ++ tl l) := by simp [tl]
    have ih := sc_tl l (a ++ [32] ++ t.s.data.toList) fun u hu => h u (List.mem_cons_of_mem _ hu)
    have e2 : (a ++ [32] ++ t.s.data.toList) ++ tl l = (a ++ [32]) ++ (t.s.data.toList ++ tl l) := by simp
    have e3 : (a ++ [32] ++ t.s.data.toList).length = (a ++ [32]).length + t.s.size := by simp [hl]; omega
    have e4 : (a ++ [32]).length = a.length + 1 := by simp
    rw [e2, e3] at ih
    rw [e1]
    have := sc_tok (a := a ++ [32]) (line := 1) (col := a.length + 1 + 1) (h t List.mem_cons_self) (tl_blank l) (by rw [e4] at ih ⊢; rw [show a.length + 1 + 1 + t.s.size = a.length + 1 + t.s.size + 1 by omega]; exact ih)
    rw [e4] at this
    exact this
theorem sc_jn (l : List Tok) (h : ∀ t ∈ l, WordT t) : Sc (bytes (jn l)) 0 1 1 (lay l 0) none := by
  cases l with
  | nil => exact .fin (by simp [jn, bytes_size])
  | cons t l =>
    have hl : t.s.data.toList.length = t.s.size := rfl
    have ih := sc_tl l t.s.data.toList fun u hu => h u (List.mem_cons_of_mem _ hu)
    have := sc_tok (a := []) (post := tl l) (line := 1) (col := 1) (h t List.mem_cons_self) (tl_blank l) (e := none) (l := lay l (t.s.size + 1)) (by
      simp only [List.nil_append, List.length_nil, Nat.zero_add]
      rw [hl] at ih
      rw [Nat.add_comm 1]
      exact ih)
    simpa [jn, lay] using this
/-- Rows of words that are alike but for places. -/
def Alike (l l' : List Tok) : Prop := l.length = l'.length ∧ ∀ i (h : i < l.length) (h' : i < l'.length), l[i].k = l'[i].k ∧ l[i].s = l'[i].s ∧ l[i].n = l'[i].n
theorem lay_len : ∀ (l : List Tok) (p : Nat), (lay l p).length = l.length
  | [], _ => rfl
  | t :: l, p => by simp [lay, lay_len l]
theorem lay_alike : ∀ (l : List Tok) (p : Nat), Alike l (lay l p)
  | [], p => ⟨rfl, fun i h => absurd h (Nat.not_lt_zero _)⟩
  | t :: l, p => by
    refine ⟨(lay_len _ _).symm, fun i h h' => ?_⟩
    cases i with
    | zero => exact ⟨rfl, rfl, rfl⟩
    | succ i =>
      have := (lay_alike l (p + t.s.size + 1)).2 i (by simpa using h) (by rw [lay_len]; simpa using h)
      simpa [lay] using this
/-- Where the k-th word of a laid row stands. -/
def layAt (l : List Tok) : Nat → Nat
  | 0 => 0
  | k + 1 => layAt l k + (match l[k]? with | some t => t.s.size | none => 0) + 1
theorem lay_place : ∀ (l : List Tok) (p i : Nat) (h : i < (lay l p).length), (lay l p)[i].l = 1 ∧ (lay l p)[i].c = p + layAt l i + 1
  | t :: l, p, 0, h => ⟨rfl, rfl⟩
  | t :: l, p, i + 1, h => by
    have ih := lay_place l (p + t.s.size + 1) i (by simpa [lay] using h)
    have e : ∀ i, layAt (t :: l) (i + 1) = t.s.size + 1 + layAt l i := by
      intro i
      induction i with
      | zero => simp [layAt]
      | succ i ih =>
        rw [layAt, ih, layAt]
        simp
        omega
    simp only [lay, List.getElem_cons_succ]
    rw [e]
    exact ⟨ih.1, by rw [ih.2]; omega⟩
theorem placed_sum {s : ByteArray} : ∀ (l : List Tok) (last : Nat), Placed s last l → last + (l.map fun t => t.s.size).sum ≤ s.size ∧ last + l.length ≤ s.size
  | [], last, h => by simpa [Placed] using h.1
  | t :: l, last, h => by
    obtain ⟨p, h1, _, h3, h4, _, _, h7⟩ := h
    have ih := placed_sum l _ h7
    simp only [List.map_cons, List.sum_cons, List.length_cons]
    omega
theorem tl_len : ∀ l : List Tok, (tl l).length = (l.map fun t => t.s.size).sum + l.length
  | [] => rfl
  | t :: l => by
    have hl : t.s.data.toList.length = t.s.size := rfl
    simp only [tl, List.length_cons, List.length_append, tl_len l, List.map_cons, List.sum_cons, hl]
    omega
theorem jn_len (l : List Tok) : (jn l).length ≤ (l.map fun t => t.s.size).sum + l.length := by
  cases l with
  | nil => exact Nat.le_refl _
  | cons t l =>
    have hl : t.s.data.toList.length = t.s.size := rfl
    simp only [jn, List.length_append, tl_len l, List.map_cons, List.sum_cons, hl, List.length_cons]
    omega
end Go.Proofs.YtekdchhengcfoaaDoor
