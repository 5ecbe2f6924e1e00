/- The reference's parsing, in plain words: a text's parts, a part's number; what is parsed is what the program parses. -/
import Derived.Test.YtdojmjbknkbpoaaDoorRows
import Derived.Test.YtdojmjbknkbpoaaDoorSignTx
namespace Go.Proofs.YtdojmjbknkbpoaaDoor
open Go.Lib (itoa decDigits decDigits_one itoa_nonneg itoa_neg itoa_length_le)
set_option linter.unusedVariables false
set_option linter.unusedSimpArgs false
def spl (b : UInt8) : List UInt8 → List UInt8 → List (List UInt8)
  | cur, [] => [cur]
  | cur, x :: r => if x = b then cur :: spl b [] r else spl b (cur ++ [x]) r
def jnB (b : UInt8) : List (List UInt8) → List UInt8
  | [] => []
  | [p] => p
  | p :: q :: r => p ++ b :: jnB b (q :: r)
theorem spl_pos (b : UInt8) : ∀ (s cur : List UInt8), ∃ p r, spl b cur s = p :: r
  | [], cur => ⟨cur, [], rfl⟩
  | x :: s, cur => by
    rw [spl]
    split
    · exact ⟨_, _, rfl⟩
    · exact spl_pos b s _
theorem jn_spl (b : UInt8) : ∀ (s cur : List UInt8), jnB b (spl b cur s) = cur ++ s
  | [], cur => by simp [spl, jnB]
  | x :: s, cur => by
    rw [spl]
    split
    · rename_i h
      obtain ⟨p, r, e⟩ := spl_pos b s []
      have ih := jn_spl b s []
      rw [e] at ih ⊢
      rw [jnB, ih, h]
      rfl
    · rw [jn_spl b s]
      simp
theorem spl_word (b : UInt8) : ∀ (p cur rest : List UInt8), (∀ x ∈ p, x ≠ b) → spl b cur (p ++ b :: rest) = (cur ++ p) :: spl b [] rest
  | [], cur, rest, _ => by simp [spl]
  | x :: p, cur, rest, h => by
    rw [List.cons_append, spl, if_neg (h x List.mem_cons_self), spl_word b p _ rest fun y hy => h y (List.mem_cons_of_mem _ hy)]
    simp
theorem spl_last (b : UInt8) : ∀ (p cur : List UInt8), (∀ x ∈ p, x ≠ b) → spl b cur p = [cur ++ p]
  | [], cur, _ => by simp [spl]
  | x :: p, cur, h => by
    rw [spl, if_neg (h x List.mem_cons_self), spl_last b p _ fun y hy => h y (List.mem_cons_of_mem _ hy)]
    simp
theorem dec_bytes (u : Nat) : ∀ x ∈ decDigits u, 48 ≤ x.toNat ∧ x.toNat ≤ 57 := by
  induction u using Nat.strongRecOn with
  | _ u ih =>
    intro x hx
    by_cases h10 : u < 10
    · rw [decDigits_one h10] at hx
      rw [List.mem_singleton.1 hx, UInt8.toNat_ofNat']
      omega
    · rw [decDigits, dif_neg h10] at hx
      rcases List.mem_append.1 hx with h | h
      · exact ih (u / 10) (by omega) x h
      · rw [List.mem_singleton.1 h, UInt8.toNat_ofNat']
        omega
theorem itoa_bytes (z : Int) : ∀ x ∈ itoa z, x = 45 ∨ (48 ≤ x.toNat ∧ x.toNat ≤ 57) := by
  intro x hx
  unfold itoa at hx
  split at hx
  · rcases List.mem_cons.1 hx with h | h
    · exact .inl h
    · exact .inr (dec_bytes _ x h)
  · exact .inr (dec_bytes _ x hx)
theorem itoa_no (z : Int) (b : UInt8) (hb : b = 46 ∨ b = 32) : ∀ x ∈ itoa z, x ≠ b := by
  intro x hx e
  rcases itoa_bytes z x hx with h | h
  · subst h; rcases hb with h | h <;> rw [h] at e <;> exact absurd e (by decide)
  · subst e
    rcases hb with rfl | rfl
    · have : (46 : UInt8).toNat = 46 := rfl
      omega
    · have : (32 : UInt8).toNat = 32 := rfl
      omega
def digF : List UInt8 → Nat → Option Nat
  | [], n => some n
  | x :: r, n => if 48 ≤ x.toNat ∧ x.toNat ≤ 57 then digF r (10 * n + (x.toNat - 48)) else none
def isNeg (p : List UInt8) : Bool := match p with
  | x :: _ => decide (x = 45)
  | [] => false
def digs (p : List UInt8) : List UInt8 := if isNeg p = true then p.drop 1 else p
def rdB (p : List UInt8) : Int × Bool :=
  if (digs p).length < 1 ∨ 13 < (digs p).length then (0, false) else match digF (digs p) 0 with
    | some n => ((if isNeg p = true then -(n : Int) else (n : Int)), decide (itoa (if isNeg p = true then -(n : Int) else (n : Int)) = p))
    | none => (0, false)
theorem dig_app : ∀ (a b : List UInt8) (n : Nat), digF (a ++ b) n = match digF a n with | some m => digF b m | none => none
  | [], b, n => rfl
  | x :: a, b, n => by
    rw [List.cons_append, digF, digF]
    split
    · exact dig_app a b _
    · rfl
theorem dig_dec (u : Nat) : ∀ n, digF (decDigits u) n = some (n * 10 ^ (decDigits u).length + u) := by
  induction u using Nat.strongRecOn with
  | _ u ih =>
    intro n
    by_cases h10 : u < 10
    · have e : (UInt8.ofNat (48 + u)).toNat = 48 + u := by rw [UInt8.toNat_ofNat']; omega
      rw [decDigits_one h10, digF, e, if_pos ⟨by omega, by omega⟩, digF]
      simp
      omega
    · have e : decDigits u = decDigits (u / 10) ++ [UInt8.ofNat (48 + u % 10)] := by rw [decDigits, dif_neg h10]
      have hl : (decDigits u).length = (decDigits (u / 10)).length + 1 := by rw [e]; simp
      have e2 : (UInt8.ofNat (48 + u % 10)).toNat = 48 + u % 10 := by rw [UInt8.toNat_ofNat']; omega
      rw [hl, e, dig_app, ih (u / 10) (by omega)]
      simp only
      rw [digF, e2, if_pos ⟨by omega, by omega⟩, digF]
      congr 1
      rw [Nat.pow_succ, ← Nat.mul_assoc]
      omega
/-- A number's text is read as the number. -/
theorem rdB_itoa (z : Int) (h0 : -1 ≤ z) (h1 : z ≤ 1099511627776) : rdB (itoa z) = (z, true) := by
  rcases Int.lt_or_le z 0 with hz | hz
  · obtain rfl : z = -((1 : Nat) : Int) := by omega
    have e : itoa (-((1 : Nat) : Int)) = [45, 49] := by rw [itoa_neg 1 (by omega), decDigits_one (by omega)]; rfl
    have e2 : rdB [45, 49] = (-((1 : Nat) : Int), decide (itoa (-((1 : Nat) : Int)) = [45, 49])) := rfl
    rw [e, e2, e]
    simp
  · obtain ⟨u, rfl⟩ := Int.eq_ofNat_of_zero_le hz
    rw [itoa_nonneg]
    have hl := dec_len_le 12 u (by have : (10 : Nat) ^ (12 + 1) = 10000000000000 := by decide
                                   omega)
    have hp := dec_pos u
    have hn : isNeg (decDigits u) = false := by
      cases hd : decDigits u with
      | nil => rfl
      | cons x r =>
        have := dec_bytes u x (by rw [hd]; exact List.mem_cons_self)
        have : ¬ x = 45 := fun e => by subst e; have : (45 : UInt8).toNat = 45 := rfl; omega
        simp [isNeg, this]
    have hd : digs (decDigits u) = decDigits u := by unfold digs; rw [hn]; rfl
    unfold rdB
    rw [hd, if_neg (by omega), dig_dec u 0, hn]
    simp [itoa_nonneg]
theorem rdB_sound {p : List UInt8} (h : (rdB p).2 = true) : itoa (rdB p).1 = p := by
  unfold rdB at *
  split at h
  · cases h
  · rename_i hc
    rw [if_neg hc]
    split at h
    · rename_i n hd
      simp only [hd]
      simpa using h
    · cases h
/-- A word's choice. -/
def wdB (w : List UInt8) : Option Ch := match spl 46 [] w with
  | [a, b, c, d, e] => if (rdB a).2 && (rdB b).2 && (rdB c).2 && (rdB d).2 && (rdB e).2 then some ⟨(rdB a).1, (rdB b).1, (rdB d).1, (rdB e).1, (rdB c).1⟩ else none
  | _ => none
def wdsB : List (List UInt8) → Option (List Ch)
  | [] => some []
  | w :: r => match wdB w with
    | some t => match wdsB r with
      | some l => some (t :: l)
      | none => none
    | none => none
def parB (s : List UInt8) : Option (List Ch) := if s = [45] then some [] else match wdsB (spl 32 [] s) with
  | some l => if mayL l = true then some l else none
  | none => none
theorem wd_sound {w : List UInt8} {t : Ch} (h : wdB w = some t) : chT t = w := by
  unfold wdB at h
  split at h
  · rename_i a b c d e hs
    split at h
    · rename_i hc
      simp only [Bool.and_eq_true] at hc
      cases h
      have hj := jn_spl 46 w []
      rw [hs] at hj
      simp only [jnB, List.nil_append] at hj
      rw [← hj]
      unfold chT
      simp only
      rw [rdB_sound hc.1.1.1.1, rdB_sound hc.1.1.1.2, rdB_sound hc.1.1.2, rdB_sound hc.1.2, rdB_sound hc.2]
    · cases h
  · cases h
theorem wd_chT (t : Ch) (h : mayC t = true) : wdB (chT t) = some t := by
  simp only [mayC, Bool.and_eq_true, decide_eq_true_eq] at h
  have n := fun z => itoa_no z 46 (.inl rfl)
  have e : spl 46 [] (chT t) = [itoa t.r, itoa t.c, itoa t.v, itoa t.f, itoa t.s] := by
    unfold chT
    rw [spl_word 46 _ _ _ (n _), spl_word 46 _ _ _ (n _), spl_word 46 _ _ _ (n _), spl_word 46 _ _ _ (n _), spl_last 46 _ _ (n _)]
    simp
  unfold wdB
  rw [e]
  simp only [rdB_itoa t.r (by omega) (by omega), rdB_itoa t.c (by omega) (by omega), rdB_itoa t.v (by omega) (by omega), rdB_itoa t.f (by omega) (by omega), rdB_itoa t.s (by omega) (by omega)]
  rfl
theorem spl_app (b : UInt8) : ∀ (s cur r : List UInt8), spl b cur (s ++ b :: r) = spl b cur s ++ spl b [] r
  | [], cur, r => by simp [spl]
  | x :: s, cur, r => by
    rw [List.cons_append, spl, spl]
    split
    · rw [spl_app b s, List.cons_append]
    · exact spl_app b s _ _
theorem jn_snoc (b : UInt8) : ∀ (ws : List (List UInt8)) (w : List UInt8), ws ≠ [] → jnB b (ws ++ [w]) = jnB b ws ++ b :: w
  | [], w, h => absurd rfl h
  | [p], w, _ => rfl
  | p :: q :: r, w, _ => by
    have := jn_snoc b (q :: r) w (by simp)
    rw [List.cons_append, List.cons_append, jnB]
    rw [List.cons_append] at this
    rw [this, jnB]
    simp
theorem chT_no (t : Ch) : ∀ x ∈ chT t, x ≠ 32 := by
  intro x hx
  unfold chT at hx
  have n := fun z => itoa_no z 32 (.inr rfl)
  simp only [List.mem_append, List.mem_cons] at hx
  rcases hx with h | h | h | h | h | h | h | h | h
  · exact n _ x h
  · rw [h]; decide
  · exact n _ x h
  · rw [h]; decide
  · exact n _ x h
  · rw [h]; decide
  · exact n _ x h
  · rw [h]; decide
  · exact n _ x h
theorem tx_jn (l : List Ch) : ∀ n, n < l.length → txS l (n + 1) = jnB 32 ((l.take (n + 1)).map chT)
  | 0, hn => by
    have e : l.getD 0 default = l[0] := by simp [List.getD, hn]
    rw [txS, if_pos rfl, txS, List.nil_append, List.nil_append, e, List.take_succ_eq_append_getElem hn]
    rfl
  | n + 1, hn => by
    have e : l.getD (n + 1) default = l[n + 1] := by simp [List.getD, hn]
    rw [txS, if_neg (by omega), tx_jn l n (by omega), e, List.take_succ_eq_append_getElem hn, List.map_append, List.map_cons, List.map_nil, jn_snoc _ _ _ (by
      intro h
      have h9 : ((l.take (n + 1)).map chT).length = n + 1 := by rw [List.length_map, List.length_take]; omega
      rw [h] at h9
      simp at h9)]
    simp
theorem tx_spl (l : List Ch) : ∀ n, n < l.length → spl 32 [] (txS l (n + 1)) = (l.take (n + 1)).map chT
  | 0, hn => by
    have e : l.getD 0 default = l[0] := by simp [List.getD, hn]
    rw [txS, if_pos rfl, txS, List.nil_append, List.nil_append, e, spl_last 32 _ _ (chT_no _), List.take_succ_eq_append_getElem hn]
    rfl
  | n + 1, hn => by
    have e : l.getD (n + 1) default = l[n + 1] := by simp [List.getD, hn]
    rw [txS, if_neg (by omega), e, List.append_assoc, List.singleton_append, spl_app, tx_spl l n (by omega), spl_last 32 _ _ (chT_no _), List.take_succ_eq_append_getElem hn, List.map_append]
    rfl
theorem wds_sound : ∀ {ws : List (List UInt8)} {l : List Ch}, wdsB ws = some l → l.map chT = ws
  | [], l, h => by cases h; rfl
  | w :: r, l, h => by
    rw [wdsB] at h
    split at h
    · rename_i t ht
      split at h
      · rename_i l' hl
        cases h
        rw [List.map_cons, wd_sound ht, wds_sound hl]
      · cases h
    · cases h
theorem wds_map : ∀ (l : List Ch), (∀ t ∈ l, mayC t = true) → wdsB (l.map chT) = some l
  | [], _ => rfl
  | t :: l, h => by
    rw [List.map_cons, wdsB, wd_chT t (h t List.mem_cons_self), wds_map l fun x hx => h x (List.mem_cons_of_mem _ hx)]
theorem par_same (s : List UInt8) : parB s = parL s := by
  by_cases h45 : s = [45]
  · unfold parB parL
    rw [if_pos h45, if_pos h45]
  have sound : ∀ l, parB s = some l → mayL l = true ∧ txtL l = s := by
    intro l h
    unfold parB at h
    rw [if_neg h45] at h
    split at h
    · rename_i l' hw
      split at h
      · rename_i hm
        cases h
        refine ⟨hm, ?_⟩
        have h1 := wds_sound hw
        have h2 := jn_spl 32 s []
        rw [← h1, List.nil_append] at h2
        have h0 : 0 < l.length := by
          obtain ⟨p, r, e⟩ := spl_pos 32 s []
          rw [e] at h1
          have := congrArg List.length h1
          simp at this
          omega
        obtain ⟨n, hn⟩ : ∃ n, l.length = n + 1 := ⟨l.length - 1, by omega⟩
        unfold txtL
        rw [if_neg (by omega), hn, tx_jn l n (by omega), List.take_of_length_le (by omega)]
        exact h2
      · cases h
    · cases h
  cases hL : parL s with
  | some l =>
    obtain ⟨hm, ht⟩ := par_some hL
    have h0 : 0 < l.length := by
      rcases Nat.eq_zero_or_pos l.length with h | h
      · exfalso
        apply h45
        rw [← ht]
        unfold txtL
        rw [if_pos h]
      · exact h
    obtain ⟨n, hn⟩ : ∃ n, l.length = n + 1 := ⟨l.length - 1, by omega⟩
    have hsp : spl 32 [] s = l.map chT := by
      rw [← ht]
      unfold txtL
      rw [if_neg (by omega), hn, tx_spl l n (by omega), List.take_of_length_le (by omega)]
    unfold parB
    rw [if_neg h45, hsp, wds_map l fun t ht => by
      obtain ⟨k, hk, rfl⟩ := List.getElem_of_mem ht
      exact (mayL_at hm k hk).1]
    simp [hm]
  | none =>
    cases hB : parB s with
    | none => rfl
    | some l =>
      obtain ⟨hm, ht⟩ := sound l hB
      rw [← ht, par_txt l hm] at hL
      cases hL
end Go.Proofs.YtdojmjbknkbpoaaDoor
