/- Choices and rows of them, in plain words. No program's text. -/
import Derived.Test.YtnmaclpjddafnaaRows
import Derived.Test.YtnmaclpjddafnaaFlat
namespace Go.Proofs.Ytnmaclpjddafnaa
open Go.Joins Go.ChangeShapes Go.WideShapes Go.RowKit Go.Deep
set_option linter.unusedVariables false
set_option linter.unusedSimpArgs false
def Fit64 (n : Int) : Prop := -9223372036854775808 ≤ n ∧ n ≤ 9223372036854775807
theorem i64_fit {v : Value} (h : Kd.fits (.i .i64) v) : ∃ n, v = .int .i64 n ∧ Fit64 n := by
  obtain ⟨n, rfl, hw⟩ := h
  refine ⟨n, rfl, ?_⟩
  simp [Lit.wf] at hw
  have h1 : IntKind.i64.min = -9223372036854775808 := rfl
  have h2 : IntKind.i64.max = 9223372036854775807 := rfl
  unfold Fit64
  omega
/-- A choice: rank, call, from, seq, value. -/
structure Ch where
  r : Int
  c : Int
  f : Int
  s : Int
  v : Int
deriving DecidableEq
instance : Inhabited Ch := ⟨⟨0, 0, 0, 0, 0⟩⟩
def Ch.ok (t : Ch) : Prop := Fit64 t.r ∧ Fit64 t.c ∧ Fit64 t.f ∧ Fit64 t.s ∧ Fit64 t.v
def Ch.val (t : Ch) : Value := .agg #[.int .i64 t.r, .int .i64 t.c, .int .i64 t.f, .int .i64 t.s, .int .i64 t.v]
def ChAt (w : World) (a : Addr) (i : Nat) (t : Ch) : Prop :=
  w.cell? (a.add (i * 5)) = some (.int .i64 t.r) ∧ w.cell? ⟨(a.add (i * 5)).block, (a.add (i * 5)).off + 1, none⟩ = some (.int .i64 t.c) ∧ w.cell? ⟨(a.add (i * 5)).block, (a.add (i * 5)).off + 2, none⟩ = some (.int .i64 t.f) ∧
    w.cell? ⟨(a.add (i * 5)).block, (a.add (i * 5)).off + 3, none⟩ = some (.int .i64 t.s) ∧ w.cell? ⟨(a.add (i * 5)).block, (a.add (i * 5)).off + 4, none⟩ = some (.int .i64 t.v)
def CRow (w : World) (A : Option Addr) (l : List Ch) : Prop :=
  l.length ≤ maxLen ∧ (0 < l.length → ∃ a, A = some a ∧ a.block < w.heap.size ∧ ∀ i (h : i < l.length), l[i].ok ∧ ChAt w a i l[i])
theorem ChAt.keep {w w' : World} {a : Addr} {i : Nat} {t : Ch} (hk : ∀ p : Addr, p.block < w.heap.size → w'.cell? p = w.cell? p) (ha : a.block < w.heap.size) (h : ChAt w a i t) : ChAt w' a i t := by
  have e : (a.add (i * 5)).block < w.heap.size := by rw [block_of_add]; exact ha
  obtain ⟨h0, h1, h2, h3, h4⟩ := h
  have k : ∀ j, w'.cell? ⟨(a.add (i * 5)).block, (a.add (i * 5)).off + j, none⟩ = w.cell? ⟨(a.add (i * 5)).block, (a.add (i * 5)).off + j, none⟩ := fun j => hk ⟨(a.add (i * 5)).block, (a.add (i * 5)).off + j, none⟩ e
  exact ⟨(hk _ e).trans h0, (k 1).trans h1, (k 2).trans h2, (k 3).trans h3, (k 4).trans h4⟩
theorem CRow.below {w w' : World} {A : Option Addr} {l : List Ch} (h : CRow w A l) (hb : Below w.heap.size w w') : CRow w' A l := by
  refine ⟨h.1, fun h0 => ?_⟩
  obtain ⟨a, rfl, ha, hc⟩ := h.2 h0
  exact ⟨a, rfl, Nat.lt_of_lt_of_le ha hb.size, fun i hi => ⟨(hc i hi).1, (hc i hi).2.keep (fun p hp => hb.cell hp) ha⟩⟩
theorem CRow.at_ {w : World} {A : Option Addr} {l : List Ch} (h : CRow w A l) {i : Nat} (hi : i < l.length) : ∃ a, A = some a ∧ a.block < w.heap.size ∧ l[i].ok ∧ ChAt w a i l[i] := by
  obtain ⟨a, rfl, ha, hc⟩ := h.2 (by omega)
  exact ⟨a, rfl, ha, hc i hi⟩
def chK : List Kd := [.i .i64, .i .i64, .i .i64, .i .i64, .i .i64]
section
variable {H : Type} {enc : TypeId × Value → H} {w : World} {base : Nat} {spare : Nat → Bool} {held : Bool}
theorem CRow.of {fuel : Nat} {v : Value} {x : DataW H × List MemPlace} (h : DataW.trod enc Try.prog w base spare held fuel 22 [v] = some x) :
    ∃ A l c, v = .slice A l.length c ∧ CRow w A l ∧ l.length ≤ c ∧ c ≤ maxLen := by
  rcases flat_slice (ks := chK) (f := 30) Try.underlying22 (by kernel_rfl) (by kernel_rfl) h with h0 | ⟨a, len, cap, h0, hl, hm, hi⟩
  · obtain rfl : v = .slice none 0 0 := by simpa using h0
    exact ⟨none, [], 0, rfl, ⟨Nat.zero_le _, fun h => absurd h (Nat.lt_irrefl 0)⟩, Nat.le_refl _, Nat.zero_le _⟩
  · obtain rfl : v = .slice (some a) len cap := by simpa using h0
    have h : ∀ i, i < len → ∃ t : Ch, t.ok ∧ ChAt w a i t := by
      intro i hik
      obtain ⟨v0, g0, f0⟩ := hi i hik 0 _ rfl
      obtain ⟨v1, g1, f1⟩ := hi i hik 1 _ rfl
      obtain ⟨v2, g2, f2⟩ := hi i hik 2 _ rfl
      obtain ⟨v3, g3, f3⟩ := hi i hik 3 _ rfl
      obtain ⟨v4, g4, f4⟩ := hi i hik 4 _ rfl
      obtain ⟨z0, rfl, k0⟩ := i64_fit f0
      obtain ⟨z1, rfl, k1⟩ := i64_fit f1
      obtain ⟨z2, rfl, k2⟩ := i64_fit f2
      obtain ⟨z3, rfl, k3⟩ := i64_fit f3
      obtain ⟨z4, rfl, k4⟩ := i64_fit f4
      rw [← Go.Deep.add_add] at g1 g2 g3 g4
      exact ⟨⟨z0, z1, z2, z3, z4⟩, ⟨k0, k1, k2, k3, k4⟩, g0, g1, g2, g3, g4⟩
    obtain ⟨T, hT⟩ := choose_lt h
    have hlen : ((List.range len).map T).length = len := by simp
    refine ⟨some a, (List.range len).map T, cap, by rw [hlen], ⟨by rw [hlen]; omega, fun h0 => ⟨a, rfl, ?_, fun i hi' => ?_⟩⟩, by rw [hlen]; exact hl, hm⟩
    · rw [hlen] at h0
      obtain ⟨_, g, _⟩ := hT 0 h0
      rcases Nat.lt_or_ge a.block w.heap.size with h | h
      · exact h
      · have : w.cell? (a.add (0 * 5)) = none := by simp [World.cell?, Addr.add, Array.getElem?_eq_none h]
        rw [this] at g; cases g
    · rw [hlen] at hi'
      simp only [List.getElem_map, List.getElem_range]
      exact hT i hi'
end
/-- May a choice be? -/
def mayC (t : Ch) : Bool := decide (0 ≤ t.r) && decide (t.r < 64) && decide (0 ≤ t.f) && decide (t.f < 64) && decide (0 ≤ t.c) && decide (t.c ≤ 1099511627776) && decide (0 ≤ t.s) && decide (t.s ≤ 1099511627776) && decide (-1 ≤ t.v) && decide (t.v < 8)
/-- Is a point ahead of another one? -/
def ltP (a b : Ch) : Bool := decide (a.r < b.r) || (decide (a.r = b.r) && decide (a.c < b.c))
def eqP (a b : Ch) : Bool := decide (a.r = b.r) && decide (a.c = b.c)
def cmpI (x y : Int) : Int := if x < y then -1 else if y < x then 1 else 0
def ptC (a b : Ch) : Int := if cmpI a.r b.r = 0 then cmpI a.c b.c else cmpI a.r b.r
theorem ptC_neg (a b : Ch) : ptC a b < 0 ↔ ltP a b = true := by
  unfold ptC cmpI ltP
  simp only [Bool.or_eq_true, Bool.and_eq_true, decide_eq_true_eq]
  repeat' split
  all_goals omega
theorem ptC_zero (a b : Ch) : ptC a b = 0 ↔ eqP a b = true := by
  unfold ptC cmpI eqP
  simp only [Bool.and_eq_true, decide_eq_true_eq]
  repeat' split
  all_goals omega
/-- May a row be? -/
def mayFrom (l : List Ch) (i : Nat) : Bool := (List.range i).all fun k => mayC (l.getD k default) && (k == 0 || ltP (l.getD (k - 1) default) (l.getD k default))
def mayL (l : List Ch) : Bool := mayFrom l l.length
theorem mayFrom_succ (l : List Ch) (i : Nat) : mayFrom l (i + 1) = (mayFrom l i && (mayC (l.getD i default) && (i == 0 || ltP (l.getD (i - 1) default) (l.getD i default)))) := by
  unfold mayFrom
  rw [List.range_succ, List.all_append]
  simp
theorem mayL_at {l : List Ch} (h : mayL l = true) (i : Nat) (hi : i < l.length) : mayC l[i] = true ∧ (i ≠ 0 → ltP (l.getD (i - 1) default) l[i] = true) := by
  unfold mayL mayFrom at h
  rw [List.all_eq_true] at h
  have := h i (List.mem_range.2 hi)
  have e : l.getD i default = l[i] := by simp [List.getD, hi]
  rw [e] at this
  simp only [Bool.and_eq_true, Bool.or_eq_true, beq_iff_eq] at this
  exact ⟨this.1, fun h0 => this.2.resolve_left h0⟩
theorem mayFrom_false {l : List Ch} {i n : Nat} (h : mayFrom l i = false) (hi : i ≤ n) : mayFrom l n = false := by
  induction n with
  | zero =>
    have e : i = 0 := by omega
    rw [e] at h
    exact h
  | succ n ih =>
    rcases Nat.lt_or_ge i (n + 1) with h1 | h1
    · rw [mayFrom_succ, ih (by omega)]; rfl
    · obtain rfl : i = n + 1 := by omega
      exact h
theorem ltP_trans {a b c : Ch} (h1 : ltP a b = true) (h2 : ltP b c = true) : ltP a c = true := by
  simp only [ltP, Bool.or_eq_true, Bool.and_eq_true, decide_eq_true_eq] at *
  omega
theorem mayL_lt {l : List Ch} (h : mayL l = true) : ∀ (j i : Nat) (hi : i < j) (hj : j < l.length), ltP (l[i]'(by omega)) l[j] = true
  | j + 1, i, hi, hj => by
    have h1 := (mayL_at h (j + 1) hj).2 (by omega)
    have e : l.getD (j + 1 - 1) default = l[j]'(by omega) := by simp [List.getD, show j < l.length by omega]
    rw [e] at h1
    rcases Nat.lt_or_ge i j with h2 | h2
    · exact ltP_trans (mayL_lt h j i h2 (by omega)) h1
    · obtain rfl : i = j := by omega
      exact h1
/-- Where the first choice stands that is so. -/
def idxF (p : Ch → Bool) (l : List Ch) : Nat := match l.findIdx? p with | some i => i | none => l.length
end Go.Proofs.Ytnmaclpjddafnaa
