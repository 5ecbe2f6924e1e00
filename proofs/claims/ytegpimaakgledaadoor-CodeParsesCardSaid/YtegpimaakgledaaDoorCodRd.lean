/- How a program's text is read (the program's reading), and that the text of a program is read as that program: no program's text. -/
import Derived.Test.YtegpimaakgledaaDoorRows
import Derived.Test.YtegpimaakgledaaDoorWitP
import Derived.Test.YtegpimaakgledaaDoorCodL
import Derived.Test.YtegpimaakgledaaDoorCodV
import Derived.Test.YtegpimaakgledaaDoorCodH
import Derived.Lib.IndexMore
import Derived.Lib.ParseIntBTie
import Derived.Lib.Strings
namespace Go.Proofs.YtegpimaakgledaaDoor
open Go Go.RowKit
open Go.Lib (itoa atoiAll parseIntB trimPrefix hasPrefix)
set_option linter.unusedVariables false
set_option linter.unusedSimpArgs false
namespace Cod
/-- What stands ahead of the first byte c, what behind it; whether there is one. -/
def cut1 (c : UInt8) : List UInt8 → List UInt8 × List UInt8 × Bool
  | [] => ([], [], false)
  | x :: r => if x = c then ([], r, true) else (x :: (cut1 c r).1, (cut1 c r).2.1, (cut1 c r).2.2)
theorem lib_cut (c : UInt8) : ∀ l : List UInt8, Lib.cut l [c] = cut1 c l ∧ (-1 ≤ Lib.index l [c]) := by
  intro l
  induction l with
  | nil => exact ⟨rfl, Int.le_refl _⟩
  | cons x r ih =>
    obtain ⟨i1, i2⟩ := ih
    unfold Lib.cut at i1 ⊢
    by_cases hx : x = c
    · subst hx
      have e : Lib.index (x :: r) [x] = 0 := by
        unfold Lib.index
        rw [if_pos (by simp)]
      rw [e]
      refine ⟨?_, by decide⟩
      unfold cut1
      simp
    · have hp : [c].isPrefixOf (x :: r) = false := by
        simp [List.isPrefixOf]
        exact fun h => hx h.symm
      have e : Lib.index (x :: r) [c] = if Lib.index r [c] == -1 then -1 else Lib.index r [c] + 1 := by
        rw [Lib.index, hp]
        rfl
      unfold cut1
      rw [if_neg hx, ← i1, e]
      by_cases hn : Lib.index r [c] = -1
      · rw [hn]
        refine ⟨?_, by decide⟩
        simp
      · have hb : (Lib.index r [c] == -1) = false := by rw [beq_eq_false_iff_ne]; exact hn
        have h0 : 0 ≤ Lib.index r [c] := by omega
        obtain ⟨k, hk⟩ : ∃ k : Nat, Lib.index r [c] = k := ⟨(Lib.index r [c]).toNat, by omega⟩
        rw [hb, hk]
        refine ⟨?_, by simp; omega⟩
        have h1 : 0 ≤ (k : Int) + 1 := by omega
        have h2 : ((k : Int) + 1).toNat = k + 1 := by omega
        simp [h1, h2]
theorem cut1_app {c : UInt8} : ∀ (a b : List UInt8), (∀ x ∈ a, x ≠ c) → cut1 c (a ++ c :: b) = (a, b, true)
  | [], b, _ => by
    show cut1 c (c :: b) = _
    unfold cut1
    rw [if_pos rfl]
  | x :: a, b, h => by
    rw [List.cons_append, cut1, if_neg (h x List.mem_cons_self), cut1_app a b (fun y hy => h y (List.mem_cons_of_mem _ hy))]
theorem cut1_none {c : UInt8} : ∀ (a : List UInt8), (∀ x ∈ a, x ≠ c) → cut1 c a = (a, [], false)
  | [], _ => rfl
  | x :: a, h => by
    rw [cut1, if_neg (h x List.mem_cons_self), cut1_none a (fun y hy => h y (List.mem_cons_of_mem _ hy))]
theorem cut1_len (c : UInt8) : ∀ l : List UInt8, (cut1 c l).1.length ≤ l.length ∧ (cut1 c l).2.1.length ≤ l.length ∧ (l ≠ [] → (cut1 c l).2.1.length < l.length)
  | [] => ⟨Nat.le_refl _, Nat.le_refl _, fun h => absurd rfl h⟩
  | x :: r => by
    obtain ⟨h1, h2, _⟩ := cut1_len c r
    unfold cut1
    split
    · exact ⟨Nat.zero_le _, Nat.le_succ _, fun _ => Nat.lt_succ_self _⟩
    · exact ⟨Nat.succ_le_succ h1, Nat.le_succ_of_le h2, fun _ => Nat.lt_succ_of_le h2⟩
theorem trim_len (s p : List UInt8) : (trimPrefix s p).length ≤ s.length := by
  unfold trimPrefix
  split
  · simp
  · exact Nat.le_refl _
/-- The operation of a name, if there is one. -/
def opFrom (nm : List UInt8) : Nat → Nat → Option Nat
  | 0, _ => none
  | f + 1, o => if o ≤ 29 then (if (opO (o : Int)).nm.data.toList = nm then some o else opFrom nm f (o + 1)) else none
def opOf (nm : List UInt8) : Option Nat := opFrom nm 30 1
theorem opFrom_bnd (nm : List UInt8) : ∀ (f o k : Nat), 1 ≤ o → opFrom nm f o = some k → 1 ≤ k ∧ k ≤ 29
  | 0, o, k, _, e => by cases e
  | f + 1, o, k, h, e => by
    unfold opFrom at e
    split at e
    · split at e
      · cases e; exact ⟨h, by assumption⟩
      · exact opFrom_bnd nm f (o + 1) k (by omega) e
    · cases e
theorem opOf_nm (o : Nat) (h1 : 1 ≤ o) (h2 : o ≤ 29) : opOf (opO (o : Int)).nm.data.toList = some o := by
  have hc : o = 1 ∨ o = 2 ∨ o = 3 ∨ o = 4 ∨ o = 5 ∨ o = 6 ∨ o = 7 ∨ o = 8 ∨ o = 9 ∨ o = 10 ∨ o = 11 ∨ o = 12 ∨ o = 13 ∨ o = 14 ∨ o = 15 ∨ o = 16 ∨ o = 17 ∨ o = 18 ∨ o = 19 ∨ o = 20 ∨ o = 21 ∨ o = 22 ∨ o = 23 ∨ o = 24 ∨ o = 25 ∨ o = 26 ∨ o = 27 ∨ o = 28 ∨ o = 29 := by omega
  rcases hc with rfl | rfl | rfl | rfl | rfl | rfl | rfl | rfl | rfl | rfl | rfl | rfl | rfl | rfl | rfl | rfl | rfl | rfl | rfl | rfl | rfl | rfl | rfl | rfl | rfl | rfl | rfl | rfl | rfl <;> decide +kernel
theorem nm_bytes (o : Nat) (h1 : 1 ≤ o) (h2 : o ≤ 29) : ∀ x ∈ (opO (o : Int)).nm.data.toList, x ≠ 10 ∧ x ≠ 32 := by
  have hc : o = 1 ∨ o = 2 ∨ o = 3 ∨ o = 4 ∨ o = 5 ∨ o = 6 ∨ o = 7 ∨ o = 8 ∨ o = 9 ∨ o = 10 ∨ o = 11 ∨ o = 12 ∨ o = 13 ∨ o = 14 ∨ o = 15 ∨ o = 16 ∨ o = 17 ∨ o = 18 ∨ o = 19 ∨ o = 20 ∨ o = 21 ∨ o = 22 ∨ o = 23 ∨ o = 24 ∨ o = 25 ∨ o = 26 ∨ o = 27 ∨ o = 28 ∨ o = 29 := by omega
  rcases hc with rfl | rfl | rfl | rfl | rfl | rfl | rfl | rfl | rfl | rfl | rfl | rfl | rfl | rfl | rfl | rfl | rfl | rfl | rfl | rfl | rfl | rfl | rfl | rfl | rfl | rfl | rfl | rfl | rfl <;> decide +kernel
/-- A line as an instruction, if it is one. -/
inductive RiR (l : List UInt8) : Option In → Prop
  | noN : (cut1 32 l).2.2 = true → (∀ v, parseIntB 64 (cut1 32 l).2.1 ≠ .ok v) → RiR l none
  | noO (n : Int) : ((cut1 32 l).2.2 = true ∧ parseIntB 64 (cut1 32 l).2.1 = .ok n ∨ (cut1 32 l).2.2 = false ∧ n = 0) → opOf (cut1 32 l).1 = none → RiR l none
  | yes (n : Int) (o : Nat) : ((cut1 32 l).2.2 = true ∧ parseIntB 64 (cut1 32 l).2.1 = .ok n ∨ (cut1 32 l).2.2 = false ∧ n = 0) → opOf (cut1 32 l).1 = some o → RiR l (some ⟨(o : Int), n⟩)
theorem RiR.det {l : List UInt8} {r q : Option In} (h : RiR l r) (k : RiR l q) : r = q := by
  have num : ∀ {n m : Int}, ((cut1 32 l).2.2 = true ∧ parseIntB 64 (cut1 32 l).2.1 = .ok n ∨ (cut1 32 l).2.2 = false ∧ n = 0) → ((cut1 32 l).2.2 = true ∧ parseIntB 64 (cut1 32 l).2.1 = .ok m ∨ (cut1 32 l).2.2 = false ∧ m = 0) → n = m := by
    rintro n m (⟨a1, a2⟩ | ⟨a1, a2⟩) (⟨b1, b2⟩ | ⟨b1, b2⟩)
    · rw [a2] at b2; injection b2
    · rw [a1] at b1; cases b1
    · rw [a1] at b1; cases b1
    · rw [a2, b2]
  have non : ∀ {n : Int}, (cut1 32 l).2.2 = true → (∀ v, parseIntB 64 (cut1 32 l).2.1 ≠ .ok v) → ((cut1 32 l).2.2 = true ∧ parseIntB 64 (cut1 32 l).2.1 = .ok n ∨ (cut1 32 l).2.2 = false ∧ n = 0) → False := by
    rintro n c1 c2 (⟨a1, a2⟩ | ⟨a1, a2⟩)
    · exact c2 _ a2
    · rw [c1] at a1; cases a1
  cases h with
  | noN a b =>
    cases k with
    | noN _ _ => rfl
    | noO _ _ _ => rfl
    | yes n o c d => exact absurd c (fun c => non a b c)
  | noO n a b =>
    cases k with
    | noN _ _ => rfl
    | noO _ _ _ => rfl
    | yes m o c d => rw [b] at d; cases d
  | yes n o a b =>
    cases k with
    | noN c d => exact absurd a (fun a => non c d a)
    | noO m c d => rw [b] at d; cases d
    | yes m p c d =>
      rw [b] at d
      injection d with d
      rw [num a c, d]
inductive ArR : List UInt8 → List Int → Option (List Int) → Prop
  | done (acc : List Int) : ArR [] acc (some acc)
  | bad (s : List UInt8) (acc : List Int) : s ≠ [] → (∀ v, atoiAll (cut1 32 (trimPrefix s [32])).1 ≠ .ok v) → ArR s acc none
  | go (s : List UInt8) (acc : List Int) (v : Int) (r : Option (List Int)) : s ≠ [] → atoiAll (cut1 32 (trimPrefix s [32])).1 = .ok v → ArR (cut1 32 (trimPrefix s [32])).2.1 (acc ++ [v]) r → ArR s acc r
theorem ArR.det {s : List UInt8} {acc : List Int} {r : Option (List Int)} (H : ArR s acc r) : ∀ {q}, ArR s acc q → r = q := by
  induction H with
  | done acc =>
    intro q K
    cases K with
    | done _ => rfl
    | bad _ _ h _ => exact absurd rfl h
    | go _ _ _ _ h _ _ => exact absurd rfl h
  | bad s acc h1 h2 =>
    intro q K
    cases K with
    | done _ => exact absurd rfl h1
    | bad _ _ _ _ => rfl
    | go _ _ v _ _ k _ => exact absurd k (h2 v)
  | go s acc v r h1 h2 h3 ih =>
    intro q K
    cases K with
    | done _ => exact absurd rfl h1
    | bad _ _ _ k => exact absurd h2 (k v)
    | go _ _ w _ _ k1 k2 =>
      rw [h2] at k1
      injection k1 with k1
      subst k1
      exact ih k2
inductive CoR : List UInt8 → List In → Option (List In) → Prop
  | done (s : List UInt8) (acc : List In) : (s = [] ∨ 4000 < acc.length) → CoR s acc (some acc)
  | bad (s : List UInt8) (acc : List In) : s ≠ [] → acc.length ≤ 4000 → RiR (cut1 10 s).1 none → CoR s acc none
  | go (s : List UInt8) (acc : List In) (x : In) (r : Option (List In)) : s ≠ [] → acc.length ≤ 4000 → RiR (cut1 10 s).1 (some x) → CoR (cut1 10 s).2.1 (acc ++ [x]) r → CoR s acc r
theorem CoR.det {s : List UInt8} {acc : List In} {r : Option (List In)} (H : CoR s acc r) : ∀ {q}, CoR s acc q → r = q := by
  have no : ∀ {s : List UInt8} {acc : List In}, (s = [] ∨ 4000 < acc.length) → s ≠ [] → acc.length ≤ 4000 → False := by
    rintro s acc (h | h) h1 h2
    · exact h1 h
    · omega
  induction H with
  | done s acc h =>
    intro q K
    cases K with
    | done _ _ _ => rfl
    | bad _ _ a b _ => exact absurd a (fun a => no h a b)
    | go _ _ _ _ a b _ _ => exact absurd a (fun a => no h a b)
  | bad s acc h1 h2 h3 =>
    intro q K
    cases K with
    | done _ _ h => exact absurd h (fun h => no h h1 h2)
    | bad _ _ _ _ _ => rfl
    | go _ _ x _ _ _ k _ => cases h3.det k
  | go s acc x r h1 h2 h3 h4 ih =>
    intro q K
    cases K with
    | done _ _ h => exact absurd h (fun h => no h h1 h2)
    | bad _ _ _ _ k => cases h3.det k
    | go _ _ y _ _ _ k k2 =>
      have := h3.det k
      injection this with this
      subst this
      exact ih k2
def hdV (s : List UInt8) : List UInt8 := trimPrefix (cut1 10 s).1 [118, 97, 114, 115, 32]
def plA (s : List UInt8) : List UInt8 := trimPrefix (cut1 10 (cut1 10 s).2.1).1 [97, 114, 114, 97, 121, 115]
def rsC (s : List UInt8) : List UInt8 := (cut1 10 (cut1 10 s).2.1).2.1
/-- What is read of a text. -/
inductive RdR (s : List UInt8) : Option (Int × List Int × List In) → Prop
  | noV : (∀ v, atoiAll (hdV s) ≠ .ok v) → RdR s none
  | noA (v : Int) : atoiAll (hdV s) = .ok v → ArR (plA s) [] none → RdR s none
  | noC (v : Int) (arrs : List Int) : atoiAll (hdV s) = .ok v → ArR (plA s) [] (some arrs) → CoR (rsC s) [] none → RdR s none
  | yes (v : Int) (arrs : List Int) (cs : List In) : atoiAll (hdV s) = .ok v → ArR (plA s) [] (some arrs) → CoR (rsC s) [] (some cs) → RdR s (some (v, arrs, cs))
theorem RdR.det {s : List UInt8} {r q : Option (Int × List Int × List In)} (h : RdR s r) (k : RdR s q) : r = q := by
  cases h with
  | noV a =>
    cases k with
    | noV _ => rfl
    | noA _ _ _ => rfl
    | noC _ _ _ _ _ => rfl
    | yes v _ _ b _ _ => exact absurd b (a v)
  | noA v a b =>
    cases k with
    | noV _ => rfl
    | noA _ _ _ => rfl
    | noC _ _ _ _ _ => rfl
    | yes _ _ _ _ c _ => cases b.det c
  | noC v arrs a b c =>
    cases k with
    | noV _ => rfl
    | noA _ _ _ => rfl
    | noC _ _ _ _ _ => rfl
    | yes _ _ _ _ d e =>
      cases c.det e
  | yes v arrs cs a b c =>
    cases k with
    | noV d => exact absurd a (d v)
    | noA _ _ d => cases b.det d
    | noC _ _ _ _ d => cases c.det d
    | yes v' arrs' cs' d e f =>
      rw [a] at d
      injection d with d
      have e1 := b.det e
      have e2 := c.det f
      injection e1 with e1
      injection e2 with e2
      rw [d, e1, e2]
/-- Numbers with a blank between each two. -/
def jnI : List Int → List UInt8
  | [] => []
  | n :: l => itoa n ++ l.flatMap fun m => 32 :: itoa m
theorem itoa_ne (n : Int) (b : UInt8) (hb : b = 10 ∨ b = 32) : ∀ x ∈ itoa n, x ≠ b := by
  intro x hx e
  subst e
  rcases Wit.itoa_bytes n x hx with h | h
  · rcases hb with rfl | rfl <;> exact absurd h (by decide)
  · rcases hb with rfl | rfl
    · have : (10 : UInt8).toNat = 10 := rfl
      omega
    · have : (32 : UInt8).toNat = 32 := rfl
      omega
theorem itoa_nil (n : Int) (h : Wit.Fit n) : itoa n ≠ [] := fun e => by
  have := Wit.atoi_itoa n h
  rw [e] at this
  cases this
theorem trim_no (s p : List UInt8) (h : hasPrefix s p = false) : trimPrefix s p = s := by
  unfold trimPrefix
  rw [if_neg (by rw [h]; decide)]
theorem trim_yes (s p : List UInt8) : trimPrefix (p ++ s) p = s := by
  unfold trimPrefix hasPrefix
  rw [if_pos (by
    rw [List.isPrefixOf_iff_prefix]
    exact List.prefix_append p s)]
  simp
theorem jnI_trim (n : Int) (l : List Int) (h : Wit.Fit n) : trimPrefix (jnI (n :: l)) [32] = jnI (n :: l) := by
  refine trim_no _ _ ?_
  show hasPrefix (itoa n ++ l.flatMap fun m => 32 :: itoa m) [32] = false
  obtain ⟨x, t, e⟩ : ∃ x t, itoa n = x :: t := by
    cases hh : itoa n with
    | nil => exact absurd hh (itoa_nil n h)
    | cons x t => exact ⟨x, t, rfl⟩
  have hx := itoa_ne n 32 (.inr rfl) x (by rw [e]; exact List.mem_cons_self)
  rw [e, List.cons_append]
  unfold hasPrefix
  simp [List.isPrefixOf]
  exact fun h => hx h.symm
theorem jnI_cut (n : Int) (l : List Int) : (cut1 32 (jnI (n :: l))).1 = itoa n ∧ (cut1 32 (jnI (n :: l))).2.1 = jnI l := by
  cases l with
  | nil =>
    have e : jnI [n] = itoa n := by unfold jnI; simp
    rw [e, cut1_none _ (itoa_ne n 32 (.inr rfl))]
    exact ⟨rfl, rfl⟩
  | cons m l =>
    have e : jnI (n :: m :: l) = itoa n ++ 32 :: jnI (m :: l) := by unfold jnI; simp
    rw [e, cut1_app _ _ (itoa_ne n 32 (.inr rfl))]
    exact ⟨rfl, rfl⟩
theorem ArR.jn : ∀ (l : List Int) (acc : List Int), (∀ n ∈ l, Wit.Fit n) → ArR (jnI l) acc (some (acc ++ l))
  | [], acc, _ => by rw [List.append_nil]; exact .done acc
  | n :: l, acc, h => by
    have hn := h n List.mem_cons_self
    have e : acc ++ n :: l = (acc ++ [n]) ++ l := by simp
    rw [e]
    have h0 : jnI (n :: l) ≠ [] := fun e => itoa_nil n hn (by unfold jnI at e; exact (List.append_eq_nil_iff.1 e).1)
    obtain ⟨c1, c2⟩ := jnI_cut n l
    refine .go _ _ n _ h0 ?_ ?_
    · rw [jnI_trim n l hn, c1]; exact Wit.atoi_itoa n hn
    · rw [jnI_trim n l hn, c2]; exact ArR.jn l _ (fun m hm => h m (List.mem_cons_of_mem _ hm))
theorem ArR.flat (l : List Int) (h : ∀ n ∈ l, Wit.Fit n) : ArR (l.flatMap fun n => 32 :: itoa n) [] (some l) := by
  cases l with
  | nil => exact .done []
  | cons n l =>
    have hn := h n List.mem_cons_self
    have e : ((n :: l).flatMap fun n => 32 :: itoa n) = [32] ++ jnI (n :: l) := by unfold jnI; simp
    obtain ⟨c1, c2⟩ := jnI_cut n l
    rw [e]
    refine .go _ _ n _ (by simp) ?_ ?_
    · rw [trim_yes, c1]; exact Wit.atoi_itoa n hn
    · rw [trim_yes, c2]
      have := ArR.jn l [n] (fun m hm => h m (List.mem_cons_of_mem _ hm))
      exact this
theorem txI_line (x : In) (h1 : 1 ≤ x.op) (h2 : x.op ≤ 29) (hf : Wit.Fit x.n) (rest : List UInt8) : ∃ b, txI x ++ rest = b ++ 10 :: rest ∧ (∀ y ∈ b, y ≠ 10) ∧ RiR b (some x) := by
  obtain ⟨op, n⟩ := x
  obtain ⟨o, rfl⟩ : ∃ o : Nat, op = o := ⟨op.toNat, by simp only at h1; omega⟩
  simp only at h1 h2 hf
  have g1 : 1 ≤ o := by omega
  have g2 : o ≤ 29 := by omega
  have hb := nm_bytes o g1 g2
  by_cases hn : n = 0
  · subst hn
    refine ⟨(opO (o : Int)).nm.data.toList, by unfold txI; simp, fun y hy => (hb y hy).1, ?_⟩
    have hc := cut1_none (c := 32) _ (fun y hy => (hb y hy).2)
    exact .yes 0 o (.inr ⟨by rw [hc], rfl⟩) (by rw [hc]; exact opOf_nm o g1 g2)
  · refine ⟨(opO (o : Int)).nm.data.toList ++ 32 :: itoa n, by unfold txI; simp [hn], fun y hy => ?_, ?_⟩
    · rcases List.mem_append.1 hy with hy | hy
      · exact (hb y hy).1
      · rcases List.mem_cons.1 hy with rfl | hy
        · decide
        · exact itoa_ne n 10 (.inl rfl) y hy
    · have hc := cut1_app (c := 32) (opO (o : Int)).nm.data.toList (itoa n) (fun y hy => (hb y hy).2)
      exact .yes n o (.inl ⟨by rw [hc], by rw [hc, Lib.parseIntB_64]; exact Wit.atoi_itoa n hf⟩) (by rw [hc]; exact opOf_nm o g1 g2)
theorem CoR.flat : ∀ (l : List In) (acc : List In), (∀ x ∈ l, 1 ≤ x.op ∧ x.op ≤ 29 ∧ Wit.Fit x.n) → acc.length + l.length ≤ 4000 → CoR (l.flatMap txI) acc (some (acc ++ l))
  | [], acc, _, _ => by rw [List.append_nil]; exact .done _ acc (.inl rfl)
  | x :: l, acc, h, hl => by
    obtain ⟨a1, a2, a3⟩ := h x List.mem_cons_self
    obtain ⟨b, e, hb, hr⟩ := txI_line x a1 a2 a3 (l.flatMap txI)
    have e2 : acc ++ x :: l = (acc ++ [x]) ++ l := by simp
    rw [List.flatMap_cons, e, e2]
    have hc := cut1_app b (l.flatMap txI) hb
    refine .go _ _ x _ (by simp) (by rw [List.length_cons] at hl; omega) (by rw [hc]; exact hr) ?_
    rw [hc]
    exact CoR.flat l _ (fun y hy => h y (List.mem_cons_of_mem _ hy)) (by rw [List.length_append, List.length_singleton]; rw [List.length_cons] at hl; omega)
/-- The text of a program is read as that program. -/
theorem RdR.text {cs : List In} {vars : Int} {arrs : List Int} (hm : mayNs cs vars arrs = true) (hk : ∀ x ∈ cs, x.ok) (ha : ∀ x ∈ arrs, -9223372036854775808 ≤ x ∧ x ≤ 9223372036854775807) : RdR (txP vars arrs cs) (some (vars, arrs, cs)) := by
  obtain ⟨h1, h2, h3, h4, h5, h6, h7⟩ := mayNs_parts hm
  have hv : Wit.Fit vars := by unfold Wit.Fit; omega
  have e : txP vars arrs cs = ([118, 97, 114, 115, 32] ++ itoa vars) ++ 10 :: (([97, 114, 114, 97, 121, 115] ++ arrs.flatMap fun n => 32 :: itoa n) ++ 10 :: cs.flatMap txI) := by
    unfold txP txC txA
    simp
  have c1 := cut1_app (c := 10) ([118, 97, 114, 115, 32] ++ itoa vars) (([97, 114, 114, 97, 121, 115] ++ arrs.flatMap fun n => 32 :: itoa n) ++ 10 :: cs.flatMap txI) (fun y hy => by
    rcases List.mem_append.1 hy with hy | hy
    · simp only [List.mem_cons, List.not_mem_nil, or_false] at hy
      rcases hy with rfl | rfl | rfl | rfl | rfl <;> decide
    · exact itoa_ne vars 10 (.inl rfl) y hy)
  have c2 := cut1_app (c := 10) ([97, 114, 114, 97, 121, 115] ++ arrs.flatMap fun n => 32 :: itoa n) (cs.flatMap txI) (fun y hy => by
    rcases List.mem_append.1 hy with hy | hy
    · simp only [List.mem_cons, List.not_mem_nil, or_false] at hy
      rcases hy with rfl | rfl | rfl | rfl | rfl | rfl <;> decide
    · obtain ⟨n, _, hy⟩ := List.mem_flatMap.1 hy
      rcases List.mem_cons.1 hy with rfl | hy
      · decide
      · exact itoa_ne n 10 (.inl rfl) y hy)
  rw [e]
  refine .yes vars arrs cs ?_ ?_ ?_
  · unfold hdV
    rw [c1, trim_yes]
    exact Wit.atoi_itoa vars hv
  · unfold plA
    rw [c1]
    dsimp only
    rw [c2, trim_yes]
    exact ArR.flat arrs ha
  · unfold rsC
    rw [c1]
    dsimp only
    rw [c2]
    have := CoR.flat cs [] (fun x hx => ?_) (by simpa using h2)
    · exact this
    · have h := h7 x hx
      unfold mayN at h
      simp only [Bool.and_eq_true, decide_eq_true_eq] at h
      exact ⟨h.1.1, h.1.2, ⟨(hk x hx).2.2.1, (hk x hx).2.2.2⟩⟩
end Cod
end Go.Proofs.YtegpimaakgledaaDoor
