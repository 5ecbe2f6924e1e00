/- Signatures as texts, in plain words: the text of a row; what a text is read as. No program's text. -/
import Derived.Test.YtnmaclpjddafnaaRows
import Derived.Test.YtnmaclpjddafnaaSignP
import Derived.Test.YtnmaclpjddafnaaNumP
namespace Go.Proofs.Ytnmaclpjddafnaa
open Go.Lib (itoa decDigits decDigits_one itoa_nonneg itoa_neg itoa_length_le)
set_option linter.unusedVariables false
set_option linter.unusedSimpArgs false
def chT (t : Ch) : List UInt8 := itoa t.r ++ 46 :: (itoa t.c ++ 46 :: (itoa t.v ++ 46 :: (itoa t.f ++ 46 :: itoa t.s)))
def txS (l : List Ch) : Nat → List UInt8
  | 0 => []
  | i + 1 => (txS l i ++ (if i = 0 then [] else [32])) ++ chT (l.getD i default)
def txtL (l : List Ch) : List UInt8 := if l.length = 0 then [45] else txS l l.length
/-- What is known behind some of a text's bytes. -/
structure RS where
  ns : List Int
  n : Nat
  d : Nat
  g : Bool
  l : List Ch
def sgn (g : Bool) (n : Nat) : Int := if g = true then -(n : Int) else (n : Int)
def mkC (ns : List Int) : Ch := ⟨ns.getD 0 0, ns.getD 1 0, ns.getD 3 0, ns.getD 4 0, ns.getD 2 0⟩
def rdS (q : RS) (b : Nat) : Option RS :=
  if 48 ≤ b ∧ b ≤ 57 ∧ q.d < 15 then some ⟨q.ns, q.n * 10 + (b - 48), q.d + 1, q.g, q.l⟩
  else if b = 45 ∧ q.d = 0 ∧ q.g = false then some ⟨q.ns, q.n, q.d, true, q.l⟩
  else if (b = 46 ∨ b = 32) ∧ 0 < q.d ∧ q.ns.length < 5 then
    if b = 32 then (if q.ns.length = 4 then some ⟨[], 0, 0, false, q.l ++ [mkC (q.ns ++ [sgn q.g q.n])]⟩ else none)
    else some ⟨q.ns ++ [sgn q.g q.n], 0, 0, false, q.l⟩
  else none
def rdL (q : RS) : List UInt8 → Option RS
  | [] => some q
  | b :: s => match rdS q b.toNat with
    | some q' => rdL q' s
    | none => none
def rs0 (l : List Ch) : RS := ⟨[], 0, 0, false, l⟩
def readL (s : List UInt8) : Option (List Ch) := match rdL (rs0 []) (s ++ [32]) with
  | some q => some q.l
  | none => none
/-- What a text is parsed as. -/
def parL (s : List UInt8) : Option (List Ch) := if s = [45] then some [] else match readL s with
  | some l => if mayL l = true ∧ txtL l = s then some l else none
  | none => none
theorem rdL_app (a b : List UInt8) : ∀ q, rdL q (a ++ b) = match rdL q a with | some q' => rdL q' b | none => none := by
  induction a with
  | nil => intro q; rfl
  | cons x a ih =>
    intro q
    rw [List.cons_append, rdL, rdL]
    cases rdS q x.toNat with
    | none => rfl
    | some q' => exact ih q'
theorem rd_digit (ns : List Int) (n d : Nat) (g : Bool) (l : List Ch) (u : Nat) (hu : u < 10) (hd : d < 15) (rest : List UInt8) :
    rdL ⟨ns, n, d, g, l⟩ (UInt8.ofNat (48 + u) :: rest) = rdL ⟨ns, n * 10 + u, d + 1, g, l⟩ rest := by
  have e : (UInt8.ofNat (48 + u)).toNat = 48 + u := by rw [UInt8.toNat_ofNat']; omega
  rw [rdL, e, rdS, if_pos ⟨by omega, by omega, hd⟩]
  have e2 : 48 + u - 48 = u := by omega
  rw [e2]
theorem dec_len_le : ∀ (k u : Nat), u < 10 ^ (k + 1) → (decDigits u).length ≤ k + 1
  | 0, u, h => by rw [decDigits_one (by omega)]; simp
  | k + 1, u, h => by
    by_cases h10 : u < 10
    · rw [decDigits_one h10]; simp
    · rw [decDigits, dif_neg h10]
      have := dec_len_le k (u / 10) (by rw [Nat.pow_succ] at h; omega)
      simp only [List.length_append, List.length_singleton]
      omega
theorem dec_pos (u : Nat) : 0 < (decDigits u).length := by
  rw [decDigits]
  split <;> simp
theorem rd_dec (ns : List Int) (g : Bool) (l : List Ch) (u : Nat) : ∀ (n d : Nat) (rest : List UInt8), d + (decDigits u).length ≤ 15 →
    rdL ⟨ns, n, d, g, l⟩ (decDigits u ++ rest) = rdL ⟨ns, n * 10 ^ (decDigits u).length + u, d + (decDigits u).length, g, l⟩ rest := by
  induction u using Nat.strongRecOn with
  | _ u ih =>
    intro n d rest hd
    by_cases h10 : u < 10
    · rw [decDigits_one h10] at hd ⊢
      rw [List.singleton_append, rd_digit ns n d g l u h10 (by simp at hd; omega)]
      simp
    · have e : decDigits u = decDigits (u / 10) ++ [UInt8.ofNat (48 + u % 10)] := by rw [decDigits, dif_neg h10]
      have hl : (decDigits u).length = (decDigits (u / 10)).length + 1 := by rw [e]; simp
      rw [hl] at hd ⊢
      rw [e, List.append_assoc, ih (u / 10) (by omega) n d _ (by omega), List.singleton_append, rd_digit _ _ _ _ _ _ (by omega) (by omega)]
      have e2 : (n * 10 ^ (decDigits (u / 10)).length + u / 10) * 10 + u % 10 = n * 10 ^ ((decDigits (u / 10)).length + 1) + u := by
        rw [Nat.add_mul, Nat.pow_succ, Nat.mul_assoc]
        omega
      rw [e2, Nat.add_assoc]
theorem rd_num (ns : List Int) (l : List Ch) (z : Int) (h0 : -1 ≤ z) (h1 : z ≤ 1099511627776) (rest : List UInt8) :
    ∃ n k g, 0 < k ∧ sgn g n = z ∧ rdL ⟨ns, 0, 0, false, l⟩ (itoa z ++ rest) = rdL ⟨ns, n, k, g, l⟩ rest := by
  rcases Int.lt_or_le z 0 with hz | hz
  · obtain rfl : z = -((1 : Nat) : Int) := by omega
    rw [itoa_neg 1 (by omega), decDigits_one (by omega)]
    refine ⟨1, 1, true, by omega, rfl, ?_⟩
    rw [List.cons_append, rdL]
    have e : rdS ⟨ns, 0, 0, false, l⟩ (45 : UInt8).toNat = some ⟨ns, 0, 0, true, l⟩ := rfl
    rw [e]
    exact rd_digit ns 0 0 true l 1 (by omega) (by omega) rest
  · obtain ⟨u, rfl⟩ := Int.eq_ofNat_of_zero_le hz
    rw [itoa_nonneg]
    have hl := dec_len_le 12 u (by have : (10 : Nat) ^ (12 + 1) = 10000000000000 := by decide
                                   omega)
    refine ⟨u, (decDigits u).length, false, dec_pos u, rfl, ?_⟩
    rw [rd_dec ns false l u 0 0 rest (by omega)]
    simp
theorem rd_dot (ns : List Int) (n k : Nat) (g : Bool) (l : List Ch) (hk : 0 < k) (hn : ns.length < 5) (rest : List UInt8) :
    rdL ⟨ns, n, k, g, l⟩ (46 :: rest) = rdL ⟨ns ++ [sgn g n], 0, 0, false, l⟩ rest := by
  have e : (46 : UInt8).toNat = 46 := rfl
  rw [rdL, e, rdS, if_neg (by omega), if_neg (by omega), if_pos ⟨.inl rfl, hk, hn⟩, if_neg (by decide)]
theorem rd_blank (ns : List Int) (n k : Nat) (g : Bool) (l : List Ch) (hk : 0 < k) (hn : ns.length = 4) (rest : List UInt8) :
    rdL ⟨ns, n, k, g, l⟩ (32 :: rest) = rdL (rs0 (l ++ [mkC (ns ++ [sgn g n])])) rest := by
  have e : (32 : UInt8).toNat = 32 := rfl
  rw [rdL, e, rdS, if_neg (by omega), if_neg (by omega), if_pos ⟨.inr rfl, hk, by show ns.length < 5; omega⟩, if_pos rfl, if_pos hn]
  rfl
theorem rd_ch (l : List Ch) (t : Ch) (h : mayC t = true) (rest : List UInt8) : rdL (rs0 l) (chT t ++ 32 :: rest) = rdL (rs0 (l ++ [t])) rest := by
  simp only [mayC, Bool.and_eq_true, decide_eq_true_eq] at h
  unfold chT rs0
  obtain ⟨n0, k0, g0, p0, s0, e0⟩ := rd_num [] l t.r (by omega) (by omega) (46 :: (itoa t.c ++ 46 :: (itoa t.v ++ 46 :: (itoa t.f ++ 46 :: (itoa t.s ++ 32 :: rest)))))
  obtain ⟨n1, k1, g1, p1, s1, e1⟩ := rd_num [t.r] l t.c (by omega) (by omega) (46 :: (itoa t.v ++ 46 :: (itoa t.f ++ 46 :: (itoa t.s ++ 32 :: rest))))
  obtain ⟨n2, k2, g2, p2, s2, e2⟩ := rd_num [t.r, t.c] l t.v (by omega) (by omega) (46 :: (itoa t.f ++ 46 :: (itoa t.s ++ 32 :: rest)))
  obtain ⟨n3, k3, g3, p3, s3, e3⟩ := rd_num [t.r, t.c, t.v] l t.f (by omega) (by omega) (46 :: (itoa t.s ++ 32 :: rest))
  obtain ⟨n4, k4, g4, p4, s4, e4⟩ := rd_num [t.r, t.c, t.v, t.f] l t.s (by omega) (by omega) (32 :: rest)
  have ea : (itoa t.r ++ 46 :: (itoa t.c ++ 46 :: (itoa t.v ++ 46 :: (itoa t.f ++ 46 :: itoa t.s)))) ++ 32 :: rest = itoa t.r ++ 46 :: (itoa t.c ++ 46 :: (itoa t.v ++ 46 :: (itoa t.f ++ 46 :: (itoa t.s ++ 32 :: rest)))) := by simp
  rw [ea, e0, rd_dot _ _ _ _ _ p0 (by simp), s0]
  rw [List.nil_append, e1, rd_dot _ _ _ _ _ p1 (by simp), s1]
  rw [List.singleton_append, e2, rd_dot _ _ _ _ _ p2 (by simp), s2]
  rw [List.cons_append, List.singleton_append, e3, rd_dot _ _ _ _ _ p3 (by simp), s3]
  rw [List.cons_append, List.cons_append, List.singleton_append, e4, rd_blank _ _ _ _ _ p4 rfl, s4]
  rfl
theorem rd_txS (l : List Ch) (h : mayL l = true) : ∀ n, n < l.length → rdL (rs0 []) (txS l (n + 1) ++ [32]) = some (rs0 (l.take (n + 1)))
  | 0, hn => by
    have e : l.getD 0 default = l[0] := by simp [List.getD, hn]
    rw [txS, if_pos rfl, txS, List.nil_append, List.nil_append, e, rd_ch _ _ (mayL_at h 0 hn).1]
    rw [List.take_succ_eq_append_getElem hn]
    rfl
  | n + 1, hn => by
    have e : l.getD (n + 1) default = l[n + 1] := by simp [List.getD, hn]
    rw [txS, if_neg (by omega), List.append_assoc, rdL_app, rd_txS l h n (by omega)]
    simp only
    rw [e, rd_ch _ _ (mayL_at h (n + 1) hn).1, ← List.take_succ_eq_append_getElem hn]
    rfl
theorem chT_pos (t : Ch) : 0 < (chT t).length := by simp [chT]; omega
theorem txS_pos (l : List Ch) (n : Nat) : 9 ≤ (txS l (n + 1)).length := by
  have hi : ∀ z : Int, 0 < (itoa z).length := fun z => by
    unfold itoa
    split
    · simp
    · exact dec_pos _
  have h0 := hi (l.getD n default).r
  have h1 := hi (l.getD n default).c
  have h2 := hi (l.getD n default).v
  have h3 := hi (l.getD n default).f
  have h4 := hi (l.getD n default).s
  simp only [txS, chT, List.length_append, List.length_cons]
  omega
/-- The text of a row that may be is read as the row. -/
theorem read_txt (l : List Ch) (h : mayL l = true) (h0 : 0 < l.length) : readL (txtL l) = some l := by
  obtain ⟨n, hn⟩ : ∃ n, l.length = n + 1 := ⟨l.length - 1, by omega⟩
  unfold readL txtL
  rw [if_neg (by omega), hn, rd_txS l h n (by omega)]
  simp only [rs0]
  rw [List.take_of_length_le (by omega)]
theorem par_txt (l : List Ch) (h : mayL l = true) : parL (txtL l) = some l := by
  by_cases h0 : l.length = 0
  · obtain rfl : l = [] := List.eq_nil_of_length_eq_zero h0
    rfl
  · have hr := read_txt l h (by omega)
    have hne : txtL l ≠ [45] := by
      obtain ⟨n, hn⟩ : ∃ n, l.length = n + 1 := ⟨l.length - 1, by omega⟩
      intro he
      have := txS_pos l n
      unfold txtL at he
      rw [if_neg h0, hn] at he
      rw [he] at this
      simp at this
    unfold parL
    rw [if_neg hne, hr]
    simp [h]
theorem par_some {s : List UInt8} {l : List Ch} (h : parL s = some l) : mayL l = true ∧ txtL l = s := by
  unfold parL at h
  split at h
  · rename_i hs
    cases h
    exact ⟨rfl, hs ▸ rfl⟩
  · split at h
    · split at h
      · rename_i hc
        cases h
        exact hc
      · cases h
    · cases h
def Small (z : Int) : Prop := -1000000000000000 ≤ z ∧ z ≤ 1000000000000000
theorem Small.fit {z : Int} (h : Small z) : Fit64 z := by unfold Small at h; unfold Fit64; omega
/-- What stands of a state behind k bytes. -/
structure RS.ok (q : RS) (k : Nat) : Prop where
  n : q.n < 10 ^ q.d
  d : q.d ≤ 15
  ns : q.ns.length ≤ 5
  each : ∀ z ∈ q.ns, Small z
  l : q.l.length ≤ k
  all : ∀ i (h : i < q.l.length), (q.l[i]).ok
theorem RS.ok.small {q : RS} {k : Nat} (h : q.ok k) : q.n < 1000000000000000 := by
  have h1 := h.n
  have h2 : (10 : Nat) ^ q.d ≤ 10 ^ 15 := Nat.pow_le_pow_right (by omega) h.d
  have h3 : (10 : Nat) ^ 15 = 1000000000000000 := by decide
  omega
theorem sgn_small {g : Bool} {n : Nat} (h : n < 1000000000000000) : Small (sgn g n) := by
  unfold sgn Small
  split <;> omega
theorem mkC_ok {ns : List Int} (h : ∀ z ∈ ns, Small z) : (mkC ns).ok := by
  have g : ∀ i, Fit64 (ns.getD i 0) := fun i => by
    rcases Nat.lt_or_ge i ns.length with hi | hi
    · have e : ns.getD i 0 = ns[i] := by simp [List.getD, hi]
      rw [e]
      exact (h _ (List.getElem_mem hi)).fit
    · have e : ns.getD i 0 = 0 := by simp [List.getD, hi]
      rw [e]
      unfold Fit64; omega
  exact ⟨g 0, g 1, g 3, g 4, g 2⟩
theorem rs0_ok : (rs0 []).ok 0 := ⟨by simp [rs0], by simp [rs0], by simp [rs0], by simp [rs0], by simp [rs0], fun i h => by simp [rs0] at h⟩
theorem rdS_ok {q q' : RS} {k b : Nat} (h : q.ok k) (hs : rdS q b = some q') : q'.ok (k + 1) := by
  have sm := h.small
  obtain ⟨h1, h2, h3, h4, h5, h6⟩ := h
  have each : ∀ z ∈ q.ns ++ [sgn q.g q.n], Small z := fun z hz => by
    rcases List.mem_append.1 hz with hz | hz
    · exact h4 z hz
    · rw [List.mem_singleton.1 hz]; exact sgn_small sm
  unfold rdS at hs
  split at hs
  · rename_i hc
    cases hs
    refine ⟨?_, by show q.d + 1 ≤ 15; omega, h3, h4, by show q.l.length ≤ k + 1; omega, h6⟩
    show q.n * 10 + (b - 48) < 10 ^ (q.d + 1)
    rw [Nat.pow_succ]
    omega
  · split at hs
    · cases hs
      exact ⟨h1, h2, h3, h4, by show q.l.length ≤ k + 1; omega, h6⟩
    · split at hs
      · rename_i hc
        split at hs
        · split at hs
          · cases hs
            refine ⟨by simp, by simp, by simp, by simp, by simp; omega, fun i hi => ?_⟩
            rcases Nat.lt_or_ge i q.l.length with hl | hl
            · rw [List.getElem_append_left hl]
              exact h6 i hl
            · rw [List.getElem_append_right hl]
              simp
              exact mkC_ok each
          · cases hs
        · cases hs
          refine ⟨by simp, by simp, by simp; omega, each, by show q.l.length ≤ k + 1; omega, h6⟩
      · cases hs
theorem rdS_high {q : RS} {b : Nat} (h : 128 ≤ b) : rdS q b = none := by
  unfold rdS
  rw [if_neg (by omega), if_neg (by omega), if_neg (by omega)]
theorem chT_le (t : Ch) (h : t.ok) : (chT t).length ≤ 109 := by
  obtain ⟨h0, h1, h2, h3, h4⟩ := h
  have g : ∀ z, Fit64 z → (itoa z).length ≤ 21 := fun z hz => itoa_length_le z hz.1 hz.2
  have := g _ h0
  have := g _ h1
  have := g _ h2
  have := g _ h3
  have := g _ h4
  simp only [chT, List.length_append, List.length_cons]
  omega
theorem txS_le (l : List Ch) (h : ∀ i (hi : i < l.length), (l[i]).ok) : ∀ n, n ≤ l.length → (txS l n).length ≤ n * 110
  | 0, _ => by simp [txS]
  | n + 1, hn => by
    have h1 := txS_le l h n (by omega)
    have hnl : n < l.length := by omega
    have e : l.getD n default = l[n] := by simp [List.getD, hnl]
    have h2 := chT_le _ (h n hn)
    rw [txS, e]
    by_cases h0 : n = 0
    · subst h0
      simp [txS] at h2 ⊢
      omega
    · simp [h0] at h2 ⊢
      omega
theorem mayC_ok {t : Ch} (h : mayC t = true) : t.ok := by
  simp only [mayC, Bool.and_eq_true, decide_eq_true_eq] at h
  unfold Ch.ok Fit64
  omega
end Go.Proofs.Ytnmaclpjddafnaa
