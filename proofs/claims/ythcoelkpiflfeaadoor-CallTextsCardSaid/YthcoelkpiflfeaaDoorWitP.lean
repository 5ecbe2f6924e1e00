/- Schedules as texts, in plain words: a pick's text; what the program and the reference read a text as; that they read the same. No program's text. -/
import Derived.Test.YthcoelkpiflfeaaDoorRows
import Derived.RowKit
import Derived.Lib.ItoaLen
import Derived.Lib.AtoiAllCases
namespace Go.Proofs.YthcoelkpiflfeaaDoor
open Go.RowKit
open Go.Lib (itoa decDigits decDigits_one itoa_nonneg itoa_neg itoa_length_le atoiAll atoiAll_minus atoiAll_plain parseMag parseUint10 signless signed NumEnd)
set_option linter.unusedVariables false
set_option linter.unusedSimpArgs false
namespace Wit
def Fit (n : Int) : Prop := -9223372036854775808 ≤ n ∧ n ≤ 9223372036854775807
/- Parts of a text. -/
def spl (b : UInt8) : List UInt8 → List UInt8 → List (List UInt8)
  | cur, [] => [cur]
  | cur, x :: r => if x = b then cur :: spl b [] r else spl b (cur ++ [x]) r
def jnB (b : UInt8) : List (List UInt8) → List UInt8
  | [] => []
  | [p] => p
  | p :: q :: r => p ++ b :: jnB b (q :: r)
theorem spl_pos (b : UInt8) : ∀ (s cur : List UInt8), ∃ p r, spl b cur s = p :: r
  | [], cur => ⟨cur, [], rfl⟩
  | x :: s, cur => by
    rw [spl]
    split
    · exact ⟨_, _, rfl⟩
    · exact spl_pos b s _
theorem jn_cons (b : UInt8) (p : List UInt8) (l : List (List UInt8)) (h : l ≠ []) : jnB b (p :: l) = p ++ b :: jnB b l := by
  cases l with
  | nil => exact absurd rfl h
  | cons q r => rfl
theorem jn_spl (b : UInt8) : ∀ (s cur : List UInt8), jnB b (spl b cur s) = cur ++ s
  | [], cur => by simp [spl, jnB]
  | x :: s, cur => by
    rw [spl]
    split
    · rename_i h
      obtain ⟨p, r, e⟩ := spl_pos b s []
      have ih := jn_spl b s []
      rw [e] at ih ⊢
      rw [jnB, ih, h]
      rfl
    · rw [jn_spl b s]
      simp
theorem spl_word (b : UInt8) : ∀ (p cur rest : List UInt8), (∀ x ∈ p, x ≠ b) → spl b cur (p ++ rest) = spl b (cur ++ p) rest
  | [], cur, rest, _ => by simp
  | x :: p, cur, rest, h => by
    rw [List.cons_append, spl, if_neg (h x List.mem_cons_self), spl_word b p _ rest fun y hy => h y (List.mem_cons_of_mem _ hy)]
    simp
theorem spl_jn (b : UInt8) : ∀ (p : List UInt8) (l : List (List UInt8)), (∀ w ∈ p :: l, ∀ x ∈ w, x ≠ b) → spl b [] (jnB b (p :: l)) = p :: l
  | p, [], h => by
    have := spl_word b p [] [] (h p List.mem_cons_self)
    rw [List.append_nil] at this
    rw [jnB, this]
    rfl
  | p, q :: r, h => by
    rw [jnB, spl_word b p [] _ (h p List.mem_cons_self), spl, if_pos rfl, spl_jn b q r fun w hw => h w (List.mem_cons_of_mem _ hw)]
    rfl
/- Numbers. -/
theorem dec_pos (u : Nat) : 0 < (decDigits u).length := by
  rw [decDigits]
  split <;> simp
theorem dec_len_le : ∀ (k u : Nat), u < 10 ^ (k + 1) → (decDigits u).length ≤ k + 1
  | 0, u, h => by rw [decDigits_one (by omega)]; simp
  | k + 1, u, h => by
    by_cases h10 : u < 10
    · rw [decDigits_one h10]; simp
    · rw [decDigits, dif_neg h10]
      have := dec_len_le k (u / 10) (by rw [Nat.pow_succ] at h; omega)
      simp only [List.length_append, List.length_singleton]
      omega
theorem dec_bytes (u : Nat) : ∀ x ∈ decDigits u, 48 ≤ x.toNat ∧ x.toNat ≤ 57 := by
  induction u using Nat.strongRecOn with
  | _ u ih =>
    intro x hx
    by_cases h10 : u < 10
    · rw [decDigits_one h10] at hx
      rw [List.mem_singleton.1 hx, UInt8.toNat_ofNat']
      omega
    · rw [decDigits, dif_neg h10] at hx
      rcases List.mem_append.1 hx with h | h
      · exact ih (u / 10) (by omega) x h
      · rw [List.mem_singleton.1 h, UInt8.toNat_ofNat']
        omega
theorem itoa_bytes (z : Int) : ∀ x ∈ itoa z, x = 45 ∨ (48 ≤ x.toNat ∧ x.toNat ≤ 57) := by
  intro x hx
  unfold itoa at hx
  split at hx
  · rcases List.mem_cons.1 hx with h | h
    · exact .inl h
    · exact .inr (dec_bytes _ x h)
  · exact .inr (dec_bytes _ x hx)
theorem itoa_no (z : Int) (b : UInt8) (hb : b = 46 ∨ b = 32) : ∀ x ∈ itoa z, x ≠ b := by
  intro x hx e
  rcases itoa_bytes z x hx with h | h
  · subst h; rcases hb with h | h <;> rw [h] at e <;> exact absurd e (by decide)
  · subst e
    rcases hb with rfl | rfl
    · have : (46 : UInt8).toNat = 46 := rfl
      omega
    · have : (32 : UInt8).toNat = 32 := rfl
      omega
theorem pu_app : ∀ (a b : List UInt8) (n : Nat), parseUint10 n (a ++ b) = match parseUint10 n a with | .ok m => parseUint10 m b | e => e
  | [], b, n => rfl
  | x :: a, b, n => by
    rw [List.cons_append, parseUint10, parseUint10]
    split
    · split
      · rfl
      · split
        · rfl
        · exact pu_app a b _
    · rfl
theorem pu_dec (u : Nat) : u < 18446744073709551616 → parseUint10 0 (decDigits u) = .ok u := by
  induction u using Nat.strongRecOn with
  | _ u ih =>
    intro hu
    by_cases h10 : u < 10
    · have e : (UInt8.ofNat (48 + u)).toNat = 48 + u := by rw [UInt8.toNat_ofNat']; omega
      rw [decDigits_one h10, parseUint10, e, if_pos ⟨by omega, by omega⟩, if_neg (by omega), if_neg (by omega), parseUint10]
      congr 1
      omega
    · have e : decDigits u = decDigits (u / 10) ++ [UInt8.ofNat (48 + u % 10)] := by rw [decDigits, dif_neg h10]
      have e2 : (UInt8.ofNat (48 + u % 10)).toNat = 48 + u % 10 := by rw [UInt8.toNat_ofNat']; omega
      rw [e, pu_app, ih (u / 10) (by omega) (by omega)]
      simp only
      rw [parseUint10, e2, if_pos ⟨by omega, by omega⟩, if_neg (by omega), if_neg (by omega), parseUint10]
      congr 1
      omega
theorem mag_dec (u : Nat) (hu : u < 18446744073709551616) : parseMag (decDigits u) = .ok u := by
  unfold parseMag
  rw [if_neg (by
    intro e
    have := dec_pos u
    rw [e] at this
    simp at this), pu_dec u hu]
/-- strconv.Atoi reads a number's text as the number. -/
theorem atoi_itoa (z : Int) (h : Fit z) : atoiAll (itoa z) = .ok z := by
  unfold Fit at h
  rcases Int.lt_or_le z 0 with hz | hz
  · obtain ⟨u, hu, rfl⟩ : ∃ u : Nat, 0 < u ∧ z = -(u : Int) := ⟨z.natAbs, by omega, by omega⟩
    rw [itoa_neg u hu, atoiAll_minus, mag_dec u (by omega), signed, if_neg (by omega)]
  · obtain ⟨u, rfl⟩ := Int.eq_ofNat_of_zero_le hz
    rw [itoa_nonneg]
    have hm := mag_dec u (by omega)
    cases hd : decDigits u with
    | nil =>
      have := dec_pos u
      rw [hd] at this
      simp at this
    | cons x r =>
      have := dec_bytes u x (by rw [hd]; exact List.mem_cons_self)
      rw [atoiAll_plain x r (by omega) (by omega), ← hd, hm, signless, if_neg (by omega)]
/- The reference's number. -/
def digM : List UInt8 → Int → Option Int
  | [], n => some n
  | x :: r, n => if 48 ≤ x.toNat ∧ x.toNat ≤ 57 then digM r (wrap64 (wrap64 (10 * n) - ((x.toNat - 48 : Nat) : Int))) else none
def isNeg (p : List UInt8) : Bool := match p with
  | x :: _ => decide (x = 45)
  | [] => false
def digs (p : List UInt8) : List UInt8 := if isNeg p = true then p.drop 1 else p
def rdB (p : List UInt8) : Int × Bool :=
  if (digs p).length < 1 ∨ 19 < (digs p).length then (0, false) else match digM (digs p) 0 with
    | some n => ((if isNeg p = true then n else wrap64 (-n)), decide (itoa (if isNeg p = true then n else wrap64 (-n)) = p))
    | none => (0, false)
theorem wrap_fit (n : Int) : Fit (wrap64 n) := by unfold Fit wrap64; omega
theorem wrap_same {n : Int} (h : Fit n) : wrap64 n = n := by unfold Fit at h; unfold wrap64; omega
theorem digM_app : ∀ (a b : List UInt8) (n : Int), digM (a ++ b) n = match digM a n with | some m => digM b m | none => none
  | [], b, n => rfl
  | x :: a, b, n => by
    rw [List.cons_append, digM, digM]
    split
    · exact digM_app a b _
    · rfl
theorem digM_fit : ∀ (a : List UInt8) (n m : Int), Fit n → digM a n = some m → Fit m
  | [], n, m, h, e => by cases e; exact h
  | x :: a, n, m, h, e => by
    rw [digM] at e
    split at e
    · exact digM_fit a _ m (wrap_fit _) e
    · cases e
theorem digM_dec (u : Nat) : u ≤ 9223372036854775808 → digM (decDigits u) 0 = some (-(u : Int)) := by
  induction u using Nat.strongRecOn with
  | _ u ih =>
    intro hu
    by_cases h10 : u < 10
    · have e : (UInt8.ofNat (48 + u)).toNat = 48 + u := by rw [UInt8.toNat_ofNat']; omega
      rw [decDigits_one h10, digM, e, if_pos ⟨by omega, by omega⟩, digM]
      congr 1
      unfold wrap64
      omega
    · have e : decDigits u = decDigits (u / 10) ++ [UInt8.ofNat (48 + u % 10)] := by rw [decDigits, dif_neg h10]
      have e2 : (UInt8.ofNat (48 + u % 10)).toNat = 48 + u % 10 := by rw [UInt8.toNat_ofNat']; omega
      rw [e, digM_app, ih (u / 10) (by omega) (by omega)]
      simp only
      rw [digM, e2, if_pos ⟨by omega, by omega⟩, digM]
      congr 1
      unfold wrap64
      omega
theorem rdB_itoa (z : Int) (h : Fit z) : rdB (itoa z) = (z, true) := by
  unfold Fit at h
  have e19 : (10 : Nat) ^ (18 + 1) = 10000000000000000000 := by decide
  rcases Int.lt_or_le z 0 with hz | hz
  · obtain ⟨u, hu, rfl⟩ : ∃ u : Nat, 0 < u ∧ z = -(u : Int) := ⟨z.natAbs, by omega, by omega⟩
    have hl := dec_len_le 18 u (by omega)
    have hp := dec_pos u
    have ei := itoa_neg u hu
    have hn : isNeg (itoa (-(u : Int))) = true := by rw [ei]; rfl
    have hd : digs (itoa (-(u : Int))) = decDigits u := by unfold digs; rw [hn, ei]; rfl
    unfold rdB
    rw [hd, if_neg (by omega), digM_dec u (by omega), hn]
    simp
  · obtain ⟨u, rfl⟩ := Int.eq_ofNat_of_zero_le hz
    rw [itoa_nonneg]
    have hl := dec_len_le 18 u (by omega)
    have hp := dec_pos u
    have hn : isNeg (decDigits u) = false := by
      cases hd : decDigits u with
      | nil => rfl
      | cons x r =>
        have := dec_bytes u x (by rw [hd]; exact List.mem_cons_self)
        have : ¬ x = 45 := fun e => by subst e; have : (45 : UInt8).toNat = 45 := rfl; omega
        simp [isNeg, this]
    have hd : digs (decDigits u) = decDigits u := by unfold digs; rw [hn]; rfl
    have hw : wrap64 (- -(u : Int)) = (u : Int) := by unfold wrap64; omega
    unfold rdB
    rw [hd, if_neg (by omega), digM_dec u (by omega), hn]
    simp only [Bool.false_eq_true, if_false, hw, itoa_nonneg, decide_true]
theorem rdB_sound {p : List UInt8} (h : (rdB p).2 = true) : itoa (rdB p).1 = p ∧ Fit (rdB p).1 := by
  unfold rdB at *
  split at h
  · cases h
  · rename_i hc
    rw [if_neg hc]
    split at h
    · rename_i n hd
      simp only [hd]
      refine ⟨by simpa using h, ?_⟩
      split
      · exact digM_fit _ 0 n (by unfold Fit; omega) hd
      · exact wrap_fit _
    · cases h
/- Picks. -/
structure Pk where
  k : Int
  r : Int
  c : Int
  f : Int
  s : Int
  v : Int
  deriving DecidableEq
instance : Inhabited Pk := ⟨⟨0, 0, 0, 0, 0, 0⟩⟩
def Pk.ok (p : Pk) : Prop := Fit p.r ∧ Fit p.c ∧ Fit p.f ∧ Fit p.s ∧ Fit p.v
def dots : List Int → List UInt8
  | [] => []
  | z :: r => 46 :: (itoa z ++ dots r)
/-- A pick's text, if it has one. -/
def ptT (p : Pk) : Option (List UInt8) :=
  if p.k = 1 then (if p.c = 0 ∧ p.f = 0 ∧ p.s = 0 ∧ p.v = 0 then some (103 :: dots [p.r]) else none)
  else if p.k = 2 then (if p.v = 0 then some (109 :: dots [p.r, p.c, p.f, p.s]) else none)
  else if p.k = 3 then some (97 :: dots [p.r, p.c, p.v, p.f, p.s]) else none
theorem spl_dots : ∀ (l : List Int) (cur : List UInt8), spl 46 cur (dots l) = cur :: l.map itoa
  | [], cur => rfl
  | z :: r, cur => by
    rw [dots, spl, if_pos rfl, spl_word 46 _ _ _ (itoa_no z 46 (.inl rfl)), spl_dots r]
    rfl
theorem jn_dots : ∀ (l : List Int) (a : List UInt8), jnB 46 (a :: l.map itoa) = a ++ dots l
  | [], a => by simp [jnB, dots]
  | z :: r, a => by
    rw [List.map_cons, jnB, jn_dots r]
    rfl
theorem dots_no : ∀ (l : List Int), ∀ x ∈ dots l, x ≠ 32
  | [], x, h => by cases h
  | z :: r, x, h => by
    rw [dots] at h
    rcases List.mem_cons.1 h with h | h
    · rw [h]; decide
    · rcases List.mem_append.1 h with h | h
      · exact itoa_no z 32 (.inr rfl) x h
      · exact dots_no r x h
theorem ptT_no {p : Pk} {w : List UInt8} (h : ptT p = some w) : ∀ x ∈ w, x ≠ 32 := by
  have key : ∀ (b : UInt8) l, b ≠ 32 → ∀ x ∈ b :: dots l, x ≠ 32 := fun b l hb x hx => by
    rcases List.mem_cons.1 hx with h | h
    · rw [h]; exact hb
    · exact dots_no l x h
  unfold ptT at h
  split at h
  · split at h
    · cases h; exact key _ _ (by decide)
    · cases h
  · split at h
    · split at h
      · cases h; exact key _ _ (by decide)
      · cases h
    · split at h
      · cases h; exact key _ _ (by decide)
      · cases h
/- Numbers of a word, as the reference and the program read them. -/
def numsB : List (List UInt8) → Option (List Int)
  | [] => some []
  | p :: r => if (rdB p).2 = true then (match numsB r with | some l => some ((rdB p).1 :: l) | none => none) else none
def numsA : List (List UInt8) → Option (List Int)
  | [] => some []
  | p :: r => match atoiAll p with
    | .ok z => (match numsA r with | some l => some (z :: l) | none => none)
    | _ => none
theorem numsB_sound : ∀ {ws : List (List UInt8)} {l : List Int}, numsB ws = some l → l.map itoa = ws ∧ ∀ z ∈ l, Fit z
  | [], l, h => by cases h; exact ⟨rfl, fun z h => by cases h⟩
  | p :: r, l, h => by
    rw [numsB] at h
    split at h
    · rename_i hp
      split at h
      · rename_i l' hl
        cases h
        have h1 := rdB_sound hp
        have h2 := numsB_sound hl
        refine ⟨by rw [List.map_cons, h1.1, h2.1], fun z hz => ?_⟩
        rcases List.mem_cons.1 hz with e | hz
        · rw [e]; exact h1.2
        · exact h2.2 z hz
      · cases h
    · cases h
theorem numsB_map : ∀ (l : List Int), (∀ z ∈ l, Fit z) → numsB (l.map itoa) = some l
  | [], _ => rfl
  | z :: l, h => by
    rw [List.map_cons, numsB, rdB_itoa z (h z List.mem_cons_self), if_pos rfl, numsB_map l fun x hx => h x (List.mem_cons_of_mem _ hx)]
theorem numsA_map : ∀ (l : List Int), (∀ z ∈ l, Fit z) → numsA (l.map itoa) = some l
  | [], _ => rfl
  | z :: l, h => by
    rw [List.map_cons, numsA, atoi_itoa z (h z List.mem_cons_self)]
    simp only
    rw [numsA_map l fun x hx => h x (List.mem_cons_of_mem _ hx)]
theorem numsA_fit : ∀ {ws : List (List UInt8)} {l : List Int}, numsA ws = some l → ∀ z ∈ l, Fit z
  | [], l, h => by cases h; exact fun z h => by cases h
  | p :: r, l, h => by
    rw [numsA] at h
    split at h
    · rename_i v hv
      split at h
      · rename_i l' hl
        cases h
        intro z hz
        rcases List.mem_cons.1 hz with e | hz
        · rw [e]; exact Go.Lib.atoiAll_bounds hv
        · exact numsA_fit hl z hz
      · cases h
    · cases h
theorem numsA_len : ∀ {ws : List (List UInt8)} {l : List Int}, numsA ws = some l → l.length = ws.length
  | [], l, h => by cases h; rfl
  | p :: r, l, h => by
    rw [numsA] at h
    split at h
    · split at h
      · rename_i l' hl
        cases h
        simp [numsA_len hl]
      · cases h
    · cases h
/- A word's pick: the reference, the program. -/
def mkB (a : List UInt8) (l : List Int) : Option Pk :=
  if a = [103] ∧ l.length = 1 then some ⟨1, l.getD 0 0, 0, 0, 0, 0⟩
  else if a = [109] ∧ l.length = 4 then some ⟨2, l.getD 0 0, l.getD 1 0, l.getD 2 0, l.getD 3 0, 0⟩
  else if a = [97] ∧ l.length = 5 then some ⟨3, l.getD 0 0, l.getD 1 0, l.getD 3 0, l.getD 4 0, l.getD 2 0⟩
  else none
def mkA (a : List UInt8) (l : List Int) : Option Pk :=
  if a = [103] then some ⟨1, l.getD 0 0, 0, 0, 0, 0⟩
  else if a = [109] then some ⟨2, l.getD 0 0, l.getD 1 0, l.getD 2 0, l.getD 3 0, 0⟩
  else if a = [97] then some ⟨3, l.getD 0 0, l.getD 1 0, l.getD 3 0, l.getD 4 0, l.getD 2 0⟩
  else none
def pkB (w : List UInt8) : Option Pk := match spl 46 [] w with
  | a :: ws => (match numsB ws with | some l => mkB a l | none => none)
  | [] => none
def pkA (w : List UInt8) : Option Pk := match spl 46 [] w with
  | a :: ws => if 5 < ws.length then none else (match numsA ws with | some l => mkA a l | none => none)
  | [] => none
theorem getD_fit {l : List Int} (h : ∀ z ∈ l, Fit z) (i : Nat) : Fit (l.getD i 0) := by
  rw [List.getD]
  cases e : l[i]? with
  | none => show Fit 0; unfold Fit; omega
  | some z => exact h z (List.mem_of_getElem? e)
theorem fit0 : Fit 0 := by unfold Fit; omega
theorem mkA_ok {a : List UInt8} {l : List Int} {p : Pk} (hl : ∀ z ∈ l, Fit z) (h : mkA a l = some p) : p.ok := by
  have g := getD_fit hl
  unfold mkA at h
  split at h
  · cases h; exact ⟨g 0, fit0, fit0, fit0, fit0⟩
  · split at h
    · cases h; exact ⟨g 0, g 1, g 2, g 3, fit0⟩
    · split at h
      · cases h; exact ⟨g 0, g 1, g 3, g 4, g 2⟩
      · cases h
theorem pkA_ok {w : List UInt8} {p : Pk} (h : pkA w = some p) : p.ok := by
  unfold pkA at h
  split at h
  · split at h
    · cases h
    · split at h
      · rename_i l hl
        exact mkA_ok (numsA_fit hl) h
      · cases h
  · cases h
theorem mkB_sound {a : List UInt8} {l : List Int} {p : Pk} (h : mkB a l = some p) : ptT p = some (a ++ dots l) ∧ mkA a l = some p := by
  unfold mkB at h
  split at h
  · rename_i hc
    obtain ⟨rfl, hl⟩ := hc
    cases h
    match l, hl with
    | [x], _ => exact ⟨rfl, rfl⟩
  · split at h
    · rename_i hc
      obtain ⟨rfl, hl⟩ := hc
      cases h
      match l, hl with
      | [x, y, z, u], _ => exact ⟨rfl, rfl⟩
    · split at h
      · rename_i hc
        obtain ⟨rfl, hl⟩ := hc
        cases h
        match l, hl with
        | [x, y, z, u, v], _ => exact ⟨rfl, rfl⟩
      · cases h
theorem pk_ok_B {w : List UInt8} {p : Pk} (h : pkB w = some p) : ptT p = some w ∧ pkA w = some p := by
  unfold pkB at h
  split at h
  · rename_i a ws hs
    split at h
    · rename_i l hl
      obtain ⟨h1, h2⟩ := numsB_sound hl
      obtain ⟨h3, h4⟩ := mkB_sound h
      have hj := jn_spl 46 w []
      rw [hs, ← h1, jn_dots, List.nil_append] at hj
      refine ⟨by rw [h3, hj], ?_⟩
      have hlen : ¬ 5 < ws.length := by
        rw [← h1, List.length_map]
        unfold mkB at h
        split at h
        · omega
        · split at h
          · omega
          · split at h
            · omega
            · cases h
      unfold pkA
      rw [hs]
      simp only
      rw [if_neg hlen, ← h1, numsA_map l h2]
      exact h4
    · cases h
  · cases h
theorem pk_txt {p : Pk} {w : List UInt8} (ho : p.ok) (h : ptT p = some w) : pkB w = some p := by
  obtain ⟨k, r, c, f, s, v⟩ := p
  obtain ⟨o1, o2, o3, o4, o5⟩ := ho
  simp only at o1 o2 o3 o4 o5
  have key : ∀ (b : UInt8) (l : List Int), b ≠ 46 → (∀ z ∈ l, Fit z) → pkB (b :: dots l) = mkB [b] l := fun b l hb hl => by
    unfold pkB
    rw [spl, if_neg hb, spl_dots]
    simp only [List.nil_append]
    rw [numsB_map l hl]
  unfold ptT at h
  simp only at h
  split at h
  · rename_i hk
    split at h
    · rename_i hz
      obtain ⟨rfl, rfl, rfl, rfl⟩ := hz
      cases h
      subst hk
      rw [key _ _ (by decide) (by simpa using o1)]
      rfl
    · cases h
  · split at h
    · rename_i hk
      split at h
      · rename_i hz
        subst hz
        cases h
        subst hk
        rw [key _ _ (by decide) (by simp [o1, o2, o3, o4])]
        rfl
      · cases h
    · split at h
      · rename_i hk
        cases h
        subst hk
        rw [key _ _ (by decide) (by simp [o1, o2, o3, o4, o5])]
        rfl
      · cases h
/- Rows of picks. -/
def txts : List Pk → Option (List (List UInt8))
  | [] => some []
  | p :: r => match ptT p with
    | some w => (match txts r with | some l => some (w :: l) | none => none)
    | none => none
/-- The text of a row of picks, if it has one. -/
def txtP (l : List Pk) : Option (List UInt8) := if l.length = 0 then some [45] else match txts l with
  | some ws => some (jnB 32 ws)
  | none => none
def reads (g : List UInt8 → Option Pk) : List (List UInt8) → Option (List Pk)
  | [] => some []
  | w :: r => match g w with
    | some p => (match reads g r with | some l => some (p :: l) | none => none)
    | none => none
/-- What a text is parsed as: the reference, the program. -/
def parB (s : List UInt8) : Option (List Pk) := if s = [45] then some [] else reads pkB (spl 32 [] s)
def parA (s : List UInt8) : Option (List Pk) := if s = [45] then some [] else match reads pkA (spl 32 [] s) with
  | some l => if txtP l = some s then some l else none
  | none => none
theorem reads_len (g : List UInt8 → Option Pk) : ∀ {ws : List (List UInt8)} {l : List Pk}, reads g ws = some l → l.length = ws.length
  | [], l, h => by cases h; rfl
  | w :: r, l, h => by
    rw [reads] at h
    split at h
    · split at h
      · rename_i l' hl
        cases h
        simp [reads_len g hl]
      · cases h
    · cases h
theorem reads_B : ∀ {ws : List (List UInt8)} {l : List Pk}, reads pkB ws = some l → txts l = some ws ∧ reads pkA ws = some l
  | [], l, h => by cases h; exact ⟨rfl, rfl⟩
  | w :: r, l, h => by
    rw [reads] at h
    split at h
    · rename_i p hp
      split at h
      · rename_i l' hl
        cases h
        obtain ⟨h1, h2⟩ := pk_ok_B hp
        obtain ⟨h3, h4⟩ := reads_B hl
        constructor
        · rw [txts, h1]
          simp only
          rw [h3]
        · rw [reads, h2]
          simp only
          rw [h4]
      · cases h
    · cases h
theorem reads_A_ok : ∀ {ws : List (List UInt8)} {l : List Pk}, reads pkA ws = some l → ∀ p ∈ l, p.ok
  | [], l, h => by cases h; exact fun p h => by cases h
  | w :: r, l, h => by
    rw [reads] at h
    split at h
    · rename_i q hq
      split at h
      · rename_i l' hl
        cases h
        intro p hp
        rcases List.mem_cons.1 hp with e | hp
        · rw [e]; exact pkA_ok hq
        · exact reads_A_ok hl p hp
      · cases h
    · cases h
theorem txts_reads : ∀ {l : List Pk} {ws : List (List UInt8)}, (∀ p ∈ l, p.ok) → txts l = some ws → reads pkB ws = some l ∧ ∀ w ∈ ws, ∀ x ∈ w, x ≠ 32
  | [], ws, _, h => by cases h; exact ⟨rfl, fun w h => by cases h⟩
  | p :: r, ws, ho, h => by
    rw [txts] at h
    split at h
    · rename_i w hw
      split at h
      · rename_i l' hl
        cases h
        obtain ⟨h1, h2⟩ := txts_reads (fun q hq => ho q (List.mem_cons_of_mem _ hq)) hl
        refine ⟨?_, fun u hu => ?_⟩
        · rw [reads, pk_txt (ho p List.mem_cons_self) hw]
          simp only
          rw [h1]
        · rcases List.mem_cons.1 hu with e | hu
          · rw [e]; exact ptT_no hw
          · exact h2 u hu
      · cases h
    · cases h
/-- THE PROGRAM PARSES WHAT THE REFERENCE PARSES, TO THE SAME ROW. -/
theorem par_same (s : List UInt8) : parA s = parB s := by
  by_cases h45 : s = [45]
  · unfold parA parB
    rw [if_pos h45, if_pos h45]
  · obtain ⟨p0, r0, e0⟩ := spl_pos 32 s []
    have hj := jn_spl 32 s []
    rw [List.nil_append] at hj
    cases hB : reads pkB (spl 32 [] s) with
    | some l =>
      obtain ⟨h1, h2⟩ := reads_B hB
      have hlen := reads_len pkB hB
      unfold parA parB
      rw [if_neg h45, if_neg h45, hB, h2]
      simp only
      rw [if_pos]
      unfold txtP
      rw [if_neg (by rw [hlen, e0]; simp), h1]
      simp only
      rw [hj]
    | none =>
      unfold parA parB
      rw [if_neg h45, if_neg h45, hB]
      cases hA : reads pkA (spl 32 [] s) with
      | none => rfl
      | some l =>
        simp only
        split
        · rename_i ht
          exfalso
          have hlen := reads_len pkA hA
          unfold txtP at ht
          rw [if_neg (by rw [hlen, e0]; simp)] at ht
          split at ht
          · rename_i ws hw
            cases ht
            obtain ⟨h1, h2⟩ := txts_reads (reads_A_ok hA) hw
            cases ws with
            | nil =>
              have e : reads pkB [] = some l := h1
              cases e
              rw [e0] at hlen
              simp at hlen
            | cons w ws =>
              rw [spl_jn 32 w ws h2, h1] at hB
              cases hB
          · cases ht
        · rfl
/-- The text of a row that fits is parsed to the row. -/
theorem par_txt {l : List Pk} {s : List UInt8} (ho : ∀ p ∈ l, p.ok) (h : txtP l = some s) : parB s = some l := by
  unfold txtP at h
  split at h
  · rename_i h0
    cases h
    obtain rfl : l = [] := List.eq_nil_of_length_eq_zero h0
    rfl
  · rename_i h0
    split at h
    · rename_i ws hw
      cases h
      obtain ⟨h1, h2⟩ := txts_reads ho hw
      cases ws with
      | nil =>
        cases h1
        exact absurd rfl h0
      | cons w ws =>
        have hs := spl_jn 32 w ws h2
        unfold parB
        rw [if_neg (by
          intro e
          rw [e] at hs
          have e2 : spl 32 [] [45] = [[45]] := rfl
          rw [e2] at hs
          rw [← hs] at h1
          have e3 : reads pkB [[45]] = none := rfl
          rw [e3] at h1
          cases h1), hs, h1]
    · cases h
end Wit
end Go.Proofs.YthcoelkpiflfeaaDoor
