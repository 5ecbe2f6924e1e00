/- The walk of the statement VerdictKinds: of any two verdicts; without conditions. -/
import Derived.Test.YtnmddeplchideaaRows
import Derived.Test.YtnmddeplchideaaTreeWords
import Derived.Test.YtnmddeplchideaaQuietBelow
import Derived.Test.YtnmddeplchideaaShelf
import Derived.Laws.StructEq
namespace Go.Proofs.Ytnmddeplchideaa.VerdictKindsW
open Go.Joins Go.ChangeShapes Go.WideShapes Go.RowKit Go.Deep Go.Proofs.Ytnmddeplchideaa
set_option linter.unusedVariables false
set_option linter.unusedSimpArgs false
structure EEnd where
  x0 : Int
  x1 : Int
  deriving DecidableEq
instance : Inhabited EEnd := ⟨⟨0, 0⟩⟩
def EEndAt (w : World) (a : Addr) (i : Nat) (t : EEnd) : Prop :=
  w.cell? (a.add (i * 2)) = some (.int .u8 t.x0) ∧
    w.cell? ⟨(a.add (i * 2)).block, (a.add (i * 2)).off + 1, none⟩ = some (.int .u8 t.x1)
def REnd (w : World) (A : Option Addr) (n : Nat) (F : Nat → EEnd) : Prop :=
  n ≤ maxLen ∧ ((n = 0) ∨ ∃ a, A = some a ∧ a.block < w.heap.size ∧ ∀ i, i < n → EEndAt w a i (F i))
theorem EEndAt.keep {w w' : World} {a : Addr} {i : Nat} {t : EEnd} (hk : ∀ p : Addr, p.block < w.heap.size → w'.cell? p = w.cell? p) (ha : a.block < w.heap.size) (h : EEndAt w a i t) : EEndAt w' a i t := by
  have e : (a.add (i * 2)).block = a.block := block_of_add a _
  obtain ⟨h0, h1⟩ := h
  exact ⟨(hk _ (by rw [e]; exact ha)).trans h0, (hk _ (by show (a.add _).block < _; rw [e]; exact ha)).trans h1⟩
theorem REnd.below {w w' : World} {A : Option Addr} {n : Nat} {F : Nat → EEnd} (h : REnd w A n F) (hb : Below w.heap.size w w') : REnd w' A n F := by
  rcases h with ⟨hn, rfl | ⟨a, rfl, ha, h⟩⟩
  · exact ⟨hn, .inl rfl⟩
  · exact ⟨hn, .inr ⟨a, rfl, Nat.lt_of_lt_of_le ha hb.size, fun i hi => (h i hi).keep (fun p hp => hb.cell hp) ha⟩⟩
theorem REnd.at_ {w : World} {A : Option Addr} {n : Nat} {F : Nat → EEnd} (h : REnd w A n F) {i : Nat} (hi : i < n) : ∃ a, A = some a ∧ a.block < w.heap.size ∧ EEndAt w a i (F i) := by
  rcases h with ⟨_, rfl | ⟨a, rfl, ha, h⟩⟩
  · omega
  · exact ⟨a, rfl, ha, h i hi⟩
section
variable {H : Type} {enc : TypeId × Value → H} {w : World} {base : Nat} {spare : Nat → Bool} {held : Bool}
theorem REnd.of {fuel : Nat} {v : Value} {x : DataW H × List MemPlace} (h : DataW.trod enc Try.prog w base spare held fuel 32 [v] = some x) :
    ∃ A n c F, v = .slice A n c ∧ REnd w A n F := by
  rcases open_slice_fuel Try.underlying32 Try.underlying76 (by kernel_rfl) (by kernel_rfl) h with h0 | ⟨a, len, cap, h0, hl, hm, hi⟩
  · obtain rfl : v = .slice none 0 0 := by simpa using h0
    exact ⟨none, 0, 0, fun _ => default, rfl, by unfold maxLen; omega, .inl rfl⟩
  · obtain rfl : v = .slice (some a) len cap := by simpa using h0
    have h : ∀ i, i < len → ∃ t : EEnd, EEndAt w a i t := by
      intro i hik
      obtain ⟨v0, y0, n0, _, g0, t0⟩ := hi i hik 0 _ rfl
      obtain ⟨v1, y1, n1, _, g1, t1⟩ := hi i hik 1 _ rfl
      obtain ⟨z0, e0, _, _⟩ := DataW.trod_int Try.underlying5 t0
      obtain ⟨z1, e1, _, _⟩ := DataW.trod_int Try.underlying5 t1
      obtain rfl : v0 = .int .u8 z0 := by simpa using e0
      obtain rfl : v1 = .int .u8 z1 := by simpa using e1
      rw [← Go.Deep.add_add] at g1
      exact ⟨⟨z0, z1⟩, g0, g1⟩
    obtain ⟨F, hF⟩ := choose_lt h
    rcases Nat.eq_zero_or_pos len with h0 | h0
    · exact ⟨some a, len, cap, F, rfl, by omega, .inl h0⟩
    · refine ⟨some a, len, cap, F, rfl, by omega, .inr ⟨a, rfl, ?_, hF⟩⟩
      obtain ⟨g, _⟩ := hF 0 h0
      rcases Nat.lt_or_ge a.block w.heap.size with h | h
      · exact h
      · have : w.cell? (a.add (0 * 2)) = none := by simp [World.cell?, Addr.add, Array.getElem?_eq_none h]
        rw [this] at g; cases g
end
structure EStuck where
  x0 : Int
  x1 : Int
  x2 : Int
  x3 : Int
  deriving DecidableEq
instance : Inhabited EStuck := ⟨⟨0, 0, 0, 0⟩⟩
def EStuckAt (w : World) (a : Addr) (i : Nat) (t : EStuck) : Prop :=
  w.cell? (a.add (i * 4)) = some (.int .i64 t.x0) ∧
    w.cell? ⟨(a.add (i * 4)).block, (a.add (i * 4)).off + 1, none⟩ = some (.int .i64 t.x1) ∧
    w.cell? ⟨(a.add (i * 4)).block, (a.add (i * 4)).off + 2, none⟩ = some (.int .u8 t.x2) ∧
    w.cell? ⟨(a.add (i * 4)).block, (a.add (i * 4)).off + 3, none⟩ = some (.int .u8 t.x3)
def RStuck (w : World) (A : Option Addr) (n : Nat) (F : Nat → EStuck) : Prop :=
  n ≤ maxLen ∧ ((n = 0) ∨ ∃ a, A = some a ∧ a.block < w.heap.size ∧ ∀ i, i < n → EStuckAt w a i (F i))
theorem EStuckAt.keep {w w' : World} {a : Addr} {i : Nat} {t : EStuck} (hk : ∀ p : Addr, p.block < w.heap.size → w'.cell? p = w.cell? p) (ha : a.block < w.heap.size) (h : EStuckAt w a i t) : EStuckAt w' a i t := by
  have e : (a.add (i * 4)).block = a.block := block_of_add a _
  obtain ⟨h0, h1, h2, h3⟩ := h
  exact ⟨(hk _ (by rw [e]; exact ha)).trans h0, (hk _ (by show (a.add _).block < _; rw [e]; exact ha)).trans h1, (hk _ (by show (a.add _).block < _; rw [e]; exact ha)).trans h2, (hk _ (by show (a.add _).block < _; rw [e]; exact ha)).trans h3⟩
theorem RStuck.below {w w' : World} {A : Option Addr} {n : Nat} {F : Nat → EStuck} (h : RStuck w A n F) (hb : Below w.heap.size w w') : RStuck w' A n F := by
  rcases h with ⟨hn, rfl | ⟨a, rfl, ha, h⟩⟩
  · exact ⟨hn, .inl rfl⟩
  · exact ⟨hn, .inr ⟨a, rfl, Nat.lt_of_lt_of_le ha hb.size, fun i hi => (h i hi).keep (fun p hp => hb.cell hp) ha⟩⟩
theorem RStuck.at_ {w : World} {A : Option Addr} {n : Nat} {F : Nat → EStuck} (h : RStuck w A n F) {i : Nat} (hi : i < n) : ∃ a, A = some a ∧ a.block < w.heap.size ∧ EStuckAt w a i (F i) := by
  rcases h with ⟨_, rfl | ⟨a, rfl, ha, h⟩⟩
  · omega
  · exact ⟨a, rfl, ha, h i hi⟩
section
variable {H : Type} {enc : TypeId × Value → H} {w : World} {base : Nat} {spare : Nat → Bool} {held : Bool}
theorem RStuck.of {fuel : Nat} {v : Value} {x : DataW H × List MemPlace} (h : DataW.trod enc Try.prog w base spare held fuel 33 [v] = some x) :
    ∃ A n c F, v = .slice A n c ∧ RStuck w A n F := by
  rcases open_slice_fuel Try.underlying33 Try.underlying72 (by kernel_rfl) (by kernel_rfl) h with h0 | ⟨a, len, cap, h0, hl, hm, hi⟩
  · obtain rfl : v = .slice none 0 0 := by simpa using h0
    exact ⟨none, 0, 0, fun _ => default, rfl, by unfold maxLen; omega, .inl rfl⟩
  · obtain rfl : v = .slice (some a) len cap := by simpa using h0
    have h : ∀ i, i < len → ∃ t : EStuck, EStuckAt w a i t := by
      intro i hik
      obtain ⟨v0, y0, n0, _, g0, t0⟩ := hi i hik 0 _ rfl
      obtain ⟨v1, y1, n1, _, g1, t1⟩ := hi i hik 1 _ rfl
      obtain ⟨v2, y2, n2, _, g2, t2⟩ := hi i hik 2 _ rfl
      obtain ⟨v3, y3, n3, _, g3, t3⟩ := hi i hik 3 _ rfl
      obtain ⟨z0, e0, _, _⟩ := DataW.trod_int Try.underlying3 t0
      obtain ⟨z1, e1, _, _⟩ := DataW.trod_int Try.underlying3 t1
      obtain ⟨z2, e2, _, _⟩ := DataW.trod_int Try.underlying5 t2
      obtain ⟨z3, e3, _, _⟩ := DataW.trod_int Try.underlying5 t3
      obtain rfl : v0 = .int .i64 z0 := by simpa using e0
      obtain rfl : v1 = .int .i64 z1 := by simpa using e1
      obtain rfl : v2 = .int .u8 z2 := by simpa using e2
      obtain rfl : v3 = .int .u8 z3 := by simpa using e3
      rw [← Go.Deep.add_add] at g1 g2 g3
      exact ⟨⟨z0, z1, z2, z3⟩, g0, g1, g2, g3⟩
    obtain ⟨F, hF⟩ := choose_lt h
    rcases Nat.eq_zero_or_pos len with h0 | h0
    · exact ⟨some a, len, cap, F, rfl, by omega, .inl h0⟩
    · refine ⟨some a, len, cap, F, rfl, by omega, .inr ⟨a, rfl, ?_, hF⟩⟩
      obtain ⟨g, _⟩ := hF 0 h0
      rcases Nat.lt_or_ge a.block w.heap.size with h | h
      · exact h
      · have : w.cell? (a.add (0 * 4)) = none := by simp [World.cell?, Addr.add, Array.getElem?_eq_none h]
        rw [this] at g; cases g
end
structure ELeak where
  x0 : Int
  x1 : Int
  deriving DecidableEq
instance : Inhabited ELeak := ⟨⟨0, 0⟩⟩
def ELeakAt (w : World) (a : Addr) (i : Nat) (t : ELeak) : Prop :=
  w.cell? (a.add (i * 2)) = some (.int .i64 t.x0) ∧
    w.cell? ⟨(a.add (i * 2)).block, (a.add (i * 2)).off + 1, none⟩ = some (.int .i64 t.x1)
def RLeak (w : World) (A : Option Addr) (n : Nat) (F : Nat → ELeak) : Prop :=
  n ≤ maxLen ∧ ((n = 0) ∨ ∃ a, A = some a ∧ a.block < w.heap.size ∧ ∀ i, i < n → ELeakAt w a i (F i))
theorem ELeakAt.keep {w w' : World} {a : Addr} {i : Nat} {t : ELeak} (hk : ∀ p : Addr, p.block < w.heap.size → w'.cell? p = w.cell? p) (ha : a.block < w.heap.size) (h : ELeakAt w a i t) : ELeakAt w' a i t := by
  have e : (a.add (i * 2)).block = a.block := block_of_add a _
  obtain ⟨h0, h1⟩ := h
  exact ⟨(hk _ (by rw [e]; exact ha)).trans h0, (hk _ (by show (a.add _).block < _; rw [e]; exact ha)).trans h1⟩
theorem RLeak.below {w w' : World} {A : Option Addr} {n : Nat} {F : Nat → ELeak} (h : RLeak w A n F) (hb : Below w.heap.size w w') : RLeak w' A n F := by
  rcases h with ⟨hn, rfl | ⟨a, rfl, ha, h⟩⟩
  · exact ⟨hn, .inl rfl⟩
  · exact ⟨hn, .inr ⟨a, rfl, Nat.lt_of_lt_of_le ha hb.size, fun i hi => (h i hi).keep (fun p hp => hb.cell hp) ha⟩⟩
theorem RLeak.at_ {w : World} {A : Option Addr} {n : Nat} {F : Nat → ELeak} (h : RLeak w A n F) {i : Nat} (hi : i < n) : ∃ a, A = some a ∧ a.block < w.heap.size ∧ ELeakAt w a i (F i) := by
  rcases h with ⟨_, rfl | ⟨a, rfl, ha, h⟩⟩
  · omega
  · exact ⟨a, rfl, ha, h i hi⟩
section
variable {H : Type} {enc : TypeId × Value → H} {w : World} {base : Nat} {spare : Nat → Bool} {held : Bool}
theorem RLeak.of {fuel : Nat} {v : Value} {x : DataW H × List MemPlace} (h : DataW.trod enc Try.prog w base spare held fuel 34 [v] = some x) :
    ∃ A n c F, v = .slice A n c ∧ RLeak w A n F := by
  rcases open_slice_fuel Try.underlying34 Try.underlying82 (by kernel_rfl) (by kernel_rfl) h with h0 | ⟨a, len, cap, h0, hl, hm, hi⟩
  · obtain rfl : v = .slice none 0 0 := by simpa using h0
    exact ⟨none, 0, 0, fun _ => default, rfl, by unfold maxLen; omega, .inl rfl⟩
  · obtain rfl : v = .slice (some a) len cap := by simpa using h0
    have h : ∀ i, i < len → ∃ t : ELeak, ELeakAt w a i t := by
      intro i hik
      obtain ⟨v0, y0, n0, _, g0, t0⟩ := hi i hik 0 _ rfl
      obtain ⟨v1, y1, n1, _, g1, t1⟩ := hi i hik 1 _ rfl
      obtain ⟨z0, e0, _, _⟩ := DataW.trod_int Try.underlying3 t0
      obtain ⟨z1, e1, _, _⟩ := DataW.trod_int Try.underlying3 t1
      obtain rfl : v0 = .int .i64 z0 := by simpa using e0
      obtain rfl : v1 = .int .i64 z1 := by simpa using e1
      rw [← Go.Deep.add_add] at g1
      exact ⟨⟨z0, z1⟩, g0, g1⟩
    obtain ⟨F, hF⟩ := choose_lt h
    rcases Nat.eq_zero_or_pos len with h0 | h0
    · exact ⟨some a, len, cap, F, rfl, by omega, .inl h0⟩
    · refine ⟨some a, len, cap, F, rfl, by omega, .inr ⟨a, rfl, ?_, hF⟩⟩
      obtain ⟨g, _⟩ := hF 0 h0
      rcases Nat.lt_or_ge a.block w.heap.size with h | h
      · exact h
      · have : w.cell? (a.add (0 * 2)) = none := by simp [World.cell?, Addr.add, Array.getElem?_eq_none h]
        rw [this] at g; cases g
end
structure EReceive where
  x0 : ByteArray
  x1 : Int
  x2 : Int
  x3 : Int
  x4 : Int
  x5 : Int
  x6 : Bool
  x7 : Int
  x8 : Int
  deriving DecidableEq
instance : Inhabited EReceive := ⟨⟨ByteArray.empty, 0, 0, 0, 0, 0, false, 0, 0⟩⟩
def EReceiveAt (w : World) (a : Addr) (i : Nat) (t : EReceive) : Prop :=
  w.cell? (a.add (i * 9)) = some (.string t.x0) ∧
    w.cell? ⟨(a.add (i * 9)).block, (a.add (i * 9)).off + 1, none⟩ = some (.int .i64 t.x1) ∧
    w.cell? ⟨(a.add (i * 9)).block, (a.add (i * 9)).off + 2, none⟩ = some (.int .i64 t.x2) ∧
    w.cell? ⟨(a.add (i * 9)).block, (a.add (i * 9)).off + 3, none⟩ = some (.int .i64 t.x3) ∧
    w.cell? ⟨(a.add (i * 9)).block, (a.add (i * 9)).off + 4, none⟩ = some (.int .i64 t.x4) ∧
    w.cell? ⟨(a.add (i * 9)).block, (a.add (i * 9)).off + 5, none⟩ = some (.int .i64 t.x5) ∧
    w.cell? ⟨(a.add (i * 9)).block, (a.add (i * 9)).off + 6, none⟩ = some (.bool t.x6) ∧
    w.cell? ⟨(a.add (i * 9)).block, (a.add (i * 9)).off + 7, none⟩ = some (.int .i64 t.x7) ∧
    w.cell? ⟨(a.add (i * 9)).block, (a.add (i * 9)).off + 8, none⟩ = some (.int .i64 t.x8)
def RReceive (w : World) (A : Option Addr) (n : Nat) (F : Nat → EReceive) : Prop :=
  n ≤ maxLen ∧ ((n = 0) ∨ ∃ a, A = some a ∧ a.block < w.heap.size ∧ ∀ i, i < n → EReceiveAt w a i (F i))
theorem EReceiveAt.keep {w w' : World} {a : Addr} {i : Nat} {t : EReceive} (hk : ∀ p : Addr, p.block < w.heap.size → w'.cell? p = w.cell? p) (ha : a.block < w.heap.size) (h : EReceiveAt w a i t) : EReceiveAt w' a i t := by
  have e : (a.add (i * 9)).block = a.block := block_of_add a _
  obtain ⟨h0, h1, h2, h3, h4, h5, h6, h7, h8⟩ := h
  exact ⟨(hk _ (by rw [e]; exact ha)).trans h0, (hk _ (by show (a.add _).block < _; rw [e]; exact ha)).trans h1, (hk _ (by show (a.add _).block < _; rw [e]; exact ha)).trans h2, (hk _ (by show (a.add _).block < _; rw [e]; exact ha)).trans h3, (hk _ (by show (a.add _).block < _; rw [e]; exact ha)).trans h4, (hk _ (by show (a.add _).block < _; rw [e]; exact ha)).trans h5, (hk _ (by show (a.add _).block < _; rw [e]; exact ha)).trans h6, (hk _ (by show (a.add _).block < _; rw [e]; exact ha)).trans h7, (hk _ (by show (a.add _).block < _; rw [e]; exact ha)).trans h8⟩
theorem RReceive.below {w w' : World} {A : Option Addr} {n : Nat} {F : Nat → EReceive} (h : RReceive w A n F) (hb : Below w.heap.size w w') : RReceive w' A n F := by
  rcases h with ⟨hn, rfl | ⟨a, rfl, ha, h⟩⟩
  · exact ⟨hn, .inl rfl⟩
  · exact ⟨hn, .inr ⟨a, rfl, Nat.lt_of_lt_of_le ha hb.size, fun i hi => (h i hi).keep (fun p hp => hb.cell hp) ha⟩⟩
theorem RReceive.at_ {w : World} {A : Option Addr} {n : Nat} {F : Nat → EReceive} (h : RReceive w A n F) {i : Nat} (hi : i < n) : ∃ a, A = some a ∧ a.block < w.heap.size ∧ EReceiveAt w a i (F i) := by
  rcases h with ⟨_, rfl | ⟨a, rfl, ha, h⟩⟩
  · omega
  · exact ⟨a, rfl, ha, h i hi⟩
section
variable {H : Type} {enc : TypeId × Value → H} {w : World} {base : Nat} {spare : Nat → Bool} {held : Bool}
theorem RReceive.of {fuel : Nat} {v : Value} {x : DataW H × List MemPlace} (h : DataW.trod enc Try.prog w base spare held fuel 35 [v] = some x) :
    ∃ A n c F, v = .slice A n c ∧ RReceive w A n F := by
  rcases open_slice_fuel Try.underlying35 Try.underlying85 (by kernel_rfl) (by kernel_rfl) h with h0 | ⟨a, len, cap, h0, hl, hm, hi⟩
  · obtain rfl : v = .slice none 0 0 := by simpa using h0
    exact ⟨none, 0, 0, fun _ => default, rfl, by unfold maxLen; omega, .inl rfl⟩
  · obtain rfl : v = .slice (some a) len cap := by simpa using h0
    have h : ∀ i, i < len → ∃ t : EReceive, EReceiveAt w a i t := by
      intro i hik
      obtain ⟨v0, y0, n0, _, g0, t0⟩ := hi i hik 0 _ rfl
      obtain ⟨v1, y1, n1, _, g1, t1⟩ := hi i hik 1 _ rfl
      obtain ⟨v2, y2, n2, _, g2, t2⟩ := hi i hik 2 _ rfl
      obtain ⟨v3, y3, n3, _, g3, t3⟩ := hi i hik 3 _ rfl
      obtain ⟨v4, y4, n4, _, g4, t4⟩ := hi i hik 4 _ rfl
      obtain ⟨v5, y5, n5, _, g5, t5⟩ := hi i hik 5 _ rfl
      obtain ⟨v6, y6, n6, _, g6, t6⟩ := hi i hik 6 _ rfl
      obtain ⟨v7, y7, n7, _, g7, t7⟩ := hi i hik 7 _ rfl
      obtain ⟨v8, y8, n8, _, g8, t8⟩ := hi i hik 8 _ rfl
      obtain ⟨z0, e0, _, _⟩ := DataW.trod_string Try.underlying9 t0
      obtain ⟨z1, e1, _, _⟩ := DataW.trod_int Try.underlying3 t1
      obtain ⟨z2, e2, _, _⟩ := DataW.trod_int Try.underlying3 t2
      obtain ⟨z3, e3, _, _⟩ := DataW.trod_int Try.underlying3 t3
      obtain ⟨z4, e4, _, _⟩ := DataW.trod_int Try.underlying3 t4
      obtain ⟨z5, e5, _, _⟩ := DataW.trod_int Try.underlying3 t5
      obtain ⟨z6, e6, _⟩ := DataW.trod_bool Try.underlying4 t6
      obtain ⟨z7, e7, _, _⟩ := DataW.trod_int Try.underlying3 t7
      obtain ⟨z8, e8, _, _⟩ := DataW.trod_int Try.underlying3 t8
      obtain rfl : v0 = .string z0 := by simpa using e0
      obtain rfl : v1 = .int .i64 z1 := by simpa using e1
      obtain rfl : v2 = .int .i64 z2 := by simpa using e2
      obtain rfl : v3 = .int .i64 z3 := by simpa using e3
      obtain rfl : v4 = .int .i64 z4 := by simpa using e4
      obtain rfl : v5 = .int .i64 z5 := by simpa using e5
      obtain rfl : v6 = .bool z6 := by simpa using e6
      obtain rfl : v7 = .int .i64 z7 := by simpa using e7
      obtain rfl : v8 = .int .i64 z8 := by simpa using e8
      rw [← Go.Deep.add_add] at g1 g2 g3 g4 g5 g6 g7 g8
      exact ⟨⟨z0, z1, z2, z3, z4, z5, z6, z7, z8⟩, g0, g1, g2, g3, g4, g5, g6, g7, g8⟩
    obtain ⟨F, hF⟩ := choose_lt h
    rcases Nat.eq_zero_or_pos len with h0 | h0
    · exact ⟨some a, len, cap, F, rfl, by omega, .inl h0⟩
    · refine ⟨some a, len, cap, F, rfl, by omega, .inr ⟨a, rfl, ?_, hF⟩⟩
      obtain ⟨g, _⟩ := hF 0 h0
      rcases Nat.lt_or_ge a.block w.heap.size with h | h
      · exact h
      · have : w.cell? (a.add (0 * 9)) = none := by simp [World.cell?, Addr.add, Array.getElem?_eq_none h]
        rw [this] at g; cases g
end
structure EMessage where
  x0 : ByteArray
  x1 : Int
  x2 : Int
  x3 : Int
  x4 : Int
  x5 : Int
  x6 : Int
  x7 : Bool
  deriving DecidableEq
instance : Inhabited EMessage := ⟨⟨ByteArray.empty, 0, 0, 0, 0, 0, 0, false⟩⟩
def EMessageAt (w : World) (a : Addr) (i : Nat) (t : EMessage) : Prop :=
  w.cell? (a.add (i * 8)) = some (.string t.x0) ∧
    w.cell? ⟨(a.add (i * 8)).block, (a.add (i * 8)).off + 1, none⟩ = some (.int .i64 t.x1) ∧
    w.cell? ⟨(a.add (i * 8)).block, (a.add (i * 8)).off + 2, none⟩ = some (.int .i64 t.x2) ∧
    w.cell? ⟨(a.add (i * 8)).block, (a.add (i * 8)).off + 3, none⟩ = some (.int .i64 t.x3) ∧
    w.cell? ⟨(a.add (i * 8)).block, (a.add (i * 8)).off + 4, none⟩ = some (.int .i64 t.x4) ∧
    w.cell? ⟨(a.add (i * 8)).block, (a.add (i * 8)).off + 5, none⟩ = some (.int .i64 t.x5) ∧
    w.cell? ⟨(a.add (i * 8)).block, (a.add (i * 8)).off + 6, none⟩ = some (.int .i64 t.x6) ∧
    w.cell? ⟨(a.add (i * 8)).block, (a.add (i * 8)).off + 7, none⟩ = some (.bool t.x7)
def RMessage (w : World) (A : Option Addr) (n : Nat) (F : Nat → EMessage) : Prop :=
  n ≤ maxLen ∧ ((n = 0) ∨ ∃ a, A = some a ∧ a.block < w.heap.size ∧ ∀ i, i < n → EMessageAt w a i (F i))
theorem EMessageAt.keep {w w' : World} {a : Addr} {i : Nat} {t : EMessage} (hk : ∀ p : Addr, p.block < w.heap.size → w'.cell? p = w.cell? p) (ha : a.block < w.heap.size) (h : EMessageAt w a i t) : EMessageAt w' a i t := by
  have e : (a.add (i * 8)).block = a.block := block_of_add a _
  obtain ⟨h0, h1, h2, h3, h4, h5, h6, h7⟩ := h
  exact ⟨(hk _ (by rw [e]; exact ha)).trans h0, (hk _ (by show (a.add _).block < _; rw [e]; exact ha)).trans h1, (hk _ (by show (a.add _).block < _; rw [e]; exact ha)).trans h2, (hk _ (by show (a.add _).block < _; rw [e]; exact ha)).trans h3, (hk _ (by show (a.add _).block < _; rw [e]; exact ha)).trans h4, (hk _ (by show (a.add _).block < _; rw [e]; exact ha)).trans h5, (hk _ (by show (a.add _).block < _; rw [e]; exact ha)).trans h6, (hk _ (by show (a.add _).block < _; rw [e]; exact ha)).trans h7⟩
theorem RMessage.below {w w' : World} {A : Option Addr} {n : Nat} {F : Nat → EMessage} (h : RMessage w A n F) (hb : Below w.heap.size w w') : RMessage w' A n F := by
  rcases h with ⟨hn, rfl | ⟨a, rfl, ha, h⟩⟩
  · exact ⟨hn, .inl rfl⟩
  · exact ⟨hn, .inr ⟨a, rfl, Nat.lt_of_lt_of_le ha hb.size, fun i hi => (h i hi).keep (fun p hp => hb.cell hp) ha⟩⟩
theorem RMessage.at_ {w : World} {A : Option Addr} {n : Nat} {F : Nat → EMessage} (h : RMessage w A n F) {i : Nat} (hi : i < n) : ∃ a, A = some a ∧ a.block < w.heap.size ∧ EMessageAt w a i (F i) := by
  rcases h with ⟨_, rfl | ⟨a, rfl, ha, h⟩⟩
  · omega
  · exact ⟨a, rfl, ha, h i hi⟩
section
variable {H : Type} {enc : TypeId × Value → H} {w : World} {base : Nat} {spare : Nat → Bool} {held : Bool}
theorem RMessage.of {fuel : Nat} {v : Value} {x : DataW H × List MemPlace} (h : DataW.trod enc Try.prog w base spare held fuel 36 [v] = some x) :
    ∃ A n c F, v = .slice A n c ∧ RMessage w A n F := by
  rcases open_slice_fuel Try.underlying36 Try.underlying88 (by kernel_rfl) (by kernel_rfl) h with h0 | ⟨a, len, cap, h0, hl, hm, hi⟩
  · obtain rfl : v = .slice none 0 0 := by simpa using h0
    exact ⟨none, 0, 0, fun _ => default, rfl, by unfold maxLen; omega, .inl rfl⟩
  · obtain rfl : v = .slice (some a) len cap := by simpa using h0
    have h : ∀ i, i < len → ∃ t : EMessage, EMessageAt w a i t := by
      intro i hik
      obtain ⟨v0, y0, n0, _, g0, t0⟩ := hi i hik 0 _ rfl
      obtain ⟨v1, y1, n1, _, g1, t1⟩ := hi i hik 1 _ rfl
      obtain ⟨v2, y2, n2, _, g2, t2⟩ := hi i hik 2 _ rfl
      obtain ⟨v3, y3, n3, _, g3, t3⟩ := hi i hik 3 _ rfl
      obtain ⟨v4, y4, n4, _, g4, t4⟩ := hi i hik 4 _ rfl
      obtain ⟨v5, y5, n5, _, g5, t5⟩ := hi i hik 5 _ rfl
      obtain ⟨v6, y6, n6, _, g6, t6⟩ := hi i hik 6 _ rfl
      obtain ⟨v7, y7, n7, _, g7, t7⟩ := hi i hik 7 _ rfl
      obtain ⟨z0, e0, _, _⟩ := DataW.trod_string Try.underlying9 t0
      obtain ⟨z1, e1, _, _⟩ := DataW.trod_int Try.underlying3 t1
      obtain ⟨z2, e2, _, _⟩ := DataW.trod_int Try.underlying3 t2
      obtain ⟨z3, e3, _, _⟩ := DataW.trod_int Try.underlying3 t3
      obtain ⟨z4, e4, _, _⟩ := DataW.trod_int Try.underlying3 t4
      obtain ⟨z5, e5, _, _⟩ := DataW.trod_int Try.underlying2 t5
      obtain ⟨z6, e6, _, _⟩ := DataW.trod_int Try.underlying3 t6
      obtain ⟨z7, e7, _⟩ := DataW.trod_bool Try.underlying4 t7
      obtain rfl : v0 = .string z0 := by simpa using e0
      obtain rfl : v1 = .int .i64 z1 := by simpa using e1
      obtain rfl : v2 = .int .i64 z2 := by simpa using e2
      obtain rfl : v3 = .int .i64 z3 := by simpa using e3
      obtain rfl : v4 = .int .i64 z4 := by simpa using e4
      obtain rfl : v5 = .int .i64 z5 := by simpa using e5
      obtain rfl : v6 = .int .i64 z6 := by simpa using e6
      obtain rfl : v7 = .bool z7 := by simpa using e7
      rw [← Go.Deep.add_add] at g1 g2 g3 g4 g5 g6 g7
      exact ⟨⟨z0, z1, z2, z3, z4, z5, z6, z7⟩, g0, g1, g2, g3, g4, g5, g6, g7⟩
    obtain ⟨F, hF⟩ := choose_lt h
    rcases Nat.eq_zero_or_pos len with h0 | h0
    · exact ⟨some a, len, cap, F, rfl, by omega, .inl h0⟩
    · refine ⟨some a, len, cap, F, rfl, by omega, .inr ⟨a, rfl, ?_, hF⟩⟩
      obtain ⟨g, _⟩ := hF 0 h0
      rcases Nat.lt_or_ge a.block w.heap.size with h | h
      · exact h
      · have : w.cell? (a.add (0 * 8)) = none := by simp [World.cell?, Addr.add, Array.getElem?_eq_none h]
        rw [this] at g; cases g
end
theorem toList_inj {x y : ByteArray} (h : x.toList = y.toList) : x = y := by
  rw [ByteArray.toList_eq, ByteArray.toList_eq] at h
  exact ByteArray.ext (Array.toList_inj.1 h)
def eqTo {E : Type} [DecidableEq E] (X Y : Nat → E) (k : Nat) : Bool := (List.range k).all fun i => decide (X i = Y i)
def eqRows {E : Type} [DecidableEq E] (n m : Nat) (X Y : Nat → E) : Bool := decide (n = m) && eqTo X Y n
theorem eqTo_snoc {E : Type} [DecidableEq E] (X Y : Nat → E) (k : Nat) : eqTo X Y (k + 1) = (eqTo X Y k && decide (X k = Y k)) := by
  simp [eqTo, List.range_succ, List.all_append]
theorem eqRows_of {E : Type} [DecidableEq E] {n : Nat} {X Y : Nat → E} (h : eqTo X Y n = true) : eqRows n n X Y = true := by simp [eqRows, h]
theorem eqTo_false {E : Type} [DecidableEq E] {n k : Nat} {X Y : Nat → E} (hk : k < n) (h : ¬ X k = Y k) : eqTo X Y n = false := by
  simp only [eqTo, List.all_eq_false, List.mem_range]
  exact ⟨k, hk, by simpa using h⟩
theorem eqRows_false {E : Type} [DecidableEq E] {n m k : Nat} {X Y : Nat → E} (hk : k < n) (h : ¬ X k = Y k) : eqRows n m X Y = false := by simp [eqRows, eqTo_false hk h]
set_option maxRecDepth 100000 in
theorem neqEnd (x y : EEnd) (w : World) : (binOp .neq 76 (.agg #[.int .u8 x.x0, .int .u8 x.x1]) (.agg #[.int .u8 y.x0, .int .u8 y.x1])).run Try.prog w = .ok (.bool (!decide (x = y))) w := by
  have u_uint8 := Try.underlying5; have a_uint8 := Try.isAgg5; have z_uint8 := Try.sizeOf5
  have hS : Try.prog.underlying 76 = some (.struct (Try.prog.fieldsOf 76)) := by kernel_rfl
  have hp : Try.prog.stoodInHeld 76 = false := by kernel_rfl
  rw [run_neq_struct, show (10000 : Nat) = 9999 + 1 from rfl, run_equalIn_agg w 9999 76 _ _ hS hp]
  simp only [Program.fieldsOf, Try.underlying76]
  clear hS hp
  go_simp
  obtain ⟨x0, x1⟩ := x
  obtain ⟨y0, y1⟩ := y
  dsimp only
  by_cases h0 : x0 = y0
  rotate_left
  · simp [h0]
  subst h0
  by_cases h1 : x1 = y1
  rotate_left
  · simp [h1]
  subst h1
  simp
set_option maxRecDepth 100000 in
set_option maxHeartbeats 1000000 in
theorem eqEnd (A B : Option Addr) (n m c d : Nat) (X Y : Nat → EEnd) (w : World) (hX : REnd w A n X) (hY : REnd w B m Y) :
    Calls Try.prog 39 #[.slice A n c, .slice B m d] w fun e w' => e = .returned (.bool (eqRows n m X Y)) ∧ Below w.heap.size w w' := by
  have hn := hX.1
  unfold maxLen at hn
  have HX := hide hX
  have HY := hide hY
  clear hX hY
  by_cases hnm : n = m
  · subst hnm
    go_enter Try.func39, Try.ntmps39
    go_wp2_with fail
    go_loopw [13] (fun i wr => ∃ k : Nat, k ≤ n ∧ i = .int .i64 k ∧ Hid (eqTo X Y k = true) ∧ Below w.heap.size w wr) (fun i _ => n - (intOf i).toNat)
    case atStart => exact ⟨0, by omega, rfl, hide rfl, Below.refl _ _⟩
    case round =>
      obtain ⟨k, hk, rfl, he, hB⟩ := hrel
      have HB := hide hB
      by_cases hlt : k < n
      · obtain ⟨a, rfl, ha, p0, p1⟩ := (HX.out.below hB).at_ hlt
        obtain ⟨b, rfl, hb, q0, q1⟩ := (HY.out.below hB).at_ hlt
        clear hB
        by_cases hxy : X k = Y k
        · have hd : decide (X k = Y k) = true := by simpa using hxy
          have hcmp := neqEnd (X k) (Y k)
          rw [hd] at hcmp
          have Hxy := hide hxy
          clear hd hxy
          have hg : Try.prog.eqGuardType Try.prog.depth 76 = false := by kernel_rfl
          go_wp2_with fail
          go_quiet (fail)
          go_wp2_with fail
          go_roundw
          case rel => exact ⟨k + 1, by omega, by go_num, hide (by rw [eqTo_snoc, he.out]; simpa using Hxy.out), below_drewN HB.out _⟩
          case measure => simp [intOf]; omega
        · have hd : decide (X k = Y k) = false := by simpa using hxy
          have hcmp := neqEnd (X k) (Y k)
          rw [hd] at hcmp
          have Hxy := hide hxy
          clear hd hxy
          have hg : Try.prog.eqGuardType Try.prog.depth 76 = false := by kernel_rfl
          go_wp2_with fail
          go_quiet (fail)
          go_wp2_with fail
          go_ret
          exact ⟨by rw [eqRows_false hlt Hxy.out]; rfl, below_drewN HB.out _⟩
      · obtain rfl : k = n := by omega
        clear hB
        have E := hide (eqRows_of he.out)
        go_wp2_with fail
        go_ret
        exact ⟨by rw [E.out]; rfl, HB.out⟩
  · have h0 : ¬ (n : Int) = (m : Int) := by omega
    have h1 : ((n : Int) == (m : Int)) = false := by simpa using h0
    have h2 : ((n : Int) != (m : Int)) = true := by simpa using h0
    clear h0
    go_enter Try.func39, Try.ntmps39
    go_wp2_with fail
    go_ret
    exact ⟨by simp [eqRows, hnm], Below.refl _ _⟩
set_option maxRecDepth 100000 in
theorem neqStuck (x y : EStuck) (w : World) : (binOp .neq 72 (.agg #[.int .i64 x.x0, .int .i64 x.x1, .int .u8 x.x2, .int .u8 x.x3]) (.agg #[.int .i64 y.x0, .int .i64 y.x1, .int .u8 y.x2, .int .u8 y.x3])).run Try.prog w = .ok (.bool (!decide (x = y))) w := by
  have u_int := Try.underlying3; have a_int := Try.isAgg3; have z_int := Try.sizeOf3
  have u_uint8 := Try.underlying5; have a_uint8 := Try.isAgg5; have z_uint8 := Try.sizeOf5
  have hS : Try.prog.underlying 72 = some (.struct (Try.prog.fieldsOf 72)) := by kernel_rfl
  have hp : Try.prog.stoodInHeld 72 = false := by kernel_rfl
  rw [run_neq_struct, show (10000 : Nat) = 9999 + 1 from rfl, run_equalIn_agg w 9999 72 _ _ hS hp]
  simp only [Program.fieldsOf, Try.underlying72]
  clear hS hp
  go_simp
  obtain ⟨x0, x1, x2, x3⟩ := x
  obtain ⟨y0, y1, y2, y3⟩ := y
  dsimp only
  by_cases h0 : x0 = y0
  rotate_left
  · simp [h0]
  subst h0
  by_cases h1 : x1 = y1
  rotate_left
  · simp [h1]
  subst h1
  by_cases h2 : x2 = y2
  rotate_left
  · simp [h2]
  subst h2
  by_cases h3 : x3 = y3
  rotate_left
  · simp [h3]
  subst h3
  simp
set_option maxRecDepth 100000 in
set_option maxHeartbeats 1000000 in
theorem eqStuck (A B : Option Addr) (n m c d : Nat) (X Y : Nat → EStuck) (w : World) (hX : RStuck w A n X) (hY : RStuck w B m Y) :
    Calls Try.prog 40 #[.slice A n c, .slice B m d] w fun e w' => e = .returned (.bool (eqRows n m X Y)) ∧ Below w.heap.size w w' := by
  have hn := hX.1
  unfold maxLen at hn
  have HX := hide hX
  have HY := hide hY
  clear hX hY
  by_cases hnm : n = m
  · subst hnm
    go_enter Try.func40, Try.ntmps40
    go_wp2_with fail
    go_loopw [13] (fun i wr => ∃ k : Nat, k ≤ n ∧ i = .int .i64 k ∧ Hid (eqTo X Y k = true) ∧ Below w.heap.size w wr) (fun i _ => n - (intOf i).toNat)
    case atStart => exact ⟨0, by omega, rfl, hide rfl, Below.refl _ _⟩
    case round =>
      obtain ⟨k, hk, rfl, he, hB⟩ := hrel
      have HB := hide hB
      by_cases hlt : k < n
      · obtain ⟨a, rfl, ha, p0, p1, p2, p3⟩ := (HX.out.below hB).at_ hlt
        obtain ⟨b, rfl, hb, q0, q1, q2, q3⟩ := (HY.out.below hB).at_ hlt
        clear hB
        by_cases hxy : X k = Y k
        · have hd : decide (X k = Y k) = true := by simpa using hxy
          have hcmp := neqStuck (X k) (Y k)
          rw [hd] at hcmp
          have Hxy := hide hxy
          clear hd hxy
          have hg : Try.prog.eqGuardType Try.prog.depth 72 = false := by kernel_rfl
          go_wp2_with fail
          go_quiet (fail)
          go_wp2_with fail
          go_roundw
          case rel => exact ⟨k + 1, by omega, by go_num, hide (by rw [eqTo_snoc, he.out]; simpa using Hxy.out), below_drewN HB.out _⟩
          case measure => simp [intOf]; omega
        · have hd : decide (X k = Y k) = false := by simpa using hxy
          have hcmp := neqStuck (X k) (Y k)
          rw [hd] at hcmp
          have Hxy := hide hxy
          clear hd hxy
          have hg : Try.prog.eqGuardType Try.prog.depth 72 = false := by kernel_rfl
          go_wp2_with fail
          go_quiet (fail)
          go_wp2_with fail
          go_ret
          exact ⟨by rw [eqRows_false hlt Hxy.out]; rfl, below_drewN HB.out _⟩
      · obtain rfl : k = n := by omega
        clear hB
        have E := hide (eqRows_of he.out)
        go_wp2_with fail
        go_ret
        exact ⟨by rw [E.out]; rfl, HB.out⟩
  · have h0 : ¬ (n : Int) = (m : Int) := by omega
    have h1 : ((n : Int) == (m : Int)) = false := by simpa using h0
    have h2 : ((n : Int) != (m : Int)) = true := by simpa using h0
    clear h0
    go_enter Try.func40, Try.ntmps40
    go_wp2_with fail
    go_ret
    exact ⟨by simp [eqRows, hnm], Below.refl _ _⟩
set_option maxRecDepth 100000 in
theorem neqLeak (x y : ELeak) (w : World) : (binOp .neq 82 (.agg #[.int .i64 x.x0, .int .i64 x.x1]) (.agg #[.int .i64 y.x0, .int .i64 y.x1])).run Try.prog w = .ok (.bool (!decide (x = y))) w := by
  have u_int := Try.underlying3; have a_int := Try.isAgg3; have z_int := Try.sizeOf3
  have hS : Try.prog.underlying 82 = some (.struct (Try.prog.fieldsOf 82)) := by kernel_rfl
  have hp : Try.prog.stoodInHeld 82 = false := by kernel_rfl
  rw [run_neq_struct, show (10000 : Nat) = 9999 + 1 from rfl, run_equalIn_agg w 9999 82 _ _ hS hp]
  simp only [Program.fieldsOf, Try.underlying82]
  clear hS hp
  go_simp
  obtain ⟨x0, x1⟩ := x
  obtain ⟨y0, y1⟩ := y
  dsimp only
  by_cases h0 : x0 = y0
  rotate_left
  · simp [h0]
  subst h0
  by_cases h1 : x1 = y1
  rotate_left
  · simp [h1]
  subst h1
  simp
set_option maxRecDepth 100000 in
set_option maxHeartbeats 1000000 in
theorem eqLeak (A B : Option Addr) (n m c d : Nat) (X Y : Nat → ELeak) (w : World) (hX : RLeak w A n X) (hY : RLeak w B m Y) :
    Calls Try.prog 41 #[.slice A n c, .slice B m d] w fun e w' => e = .returned (.bool (eqRows n m X Y)) ∧ Below w.heap.size w w' := by
  have hn := hX.1
  unfold maxLen at hn
  have HX := hide hX
  have HY := hide hY
  clear hX hY
  by_cases hnm : n = m
  · subst hnm
    go_enter Try.func41, Try.ntmps41
    go_wp2_with fail
    go_loopw [13] (fun i wr => ∃ k : Nat, k ≤ n ∧ i = .int .i64 k ∧ Hid (eqTo X Y k = true) ∧ Below w.heap.size w wr) (fun i _ => n - (intOf i).toNat)
    case atStart => exact ⟨0, by omega, rfl, hide rfl, Below.refl _ _⟩
    case round =>
      obtain ⟨k, hk, rfl, he, hB⟩ := hrel
      have HB := hide hB
      by_cases hlt : k < n
      · obtain ⟨a, rfl, ha, p0, p1⟩ := (HX.out.below hB).at_ hlt
        obtain ⟨b, rfl, hb, q0, q1⟩ := (HY.out.below hB).at_ hlt
        clear hB
        by_cases hxy : X k = Y k
        · have hd : decide (X k = Y k) = true := by simpa using hxy
          have hcmp := neqLeak (X k) (Y k)
          rw [hd] at hcmp
          have Hxy := hide hxy
          clear hd hxy
          have hg : Try.prog.eqGuardType Try.prog.depth 82 = false := by kernel_rfl
          go_wp2_with fail
          go_quiet (fail)
          go_wp2_with fail
          go_roundw
          case rel => exact ⟨k + 1, by omega, by go_num, hide (by rw [eqTo_snoc, he.out]; simpa using Hxy.out), below_drewN HB.out _⟩
          case measure => simp [intOf]; omega
        · have hd : decide (X k = Y k) = false := by simpa using hxy
          have hcmp := neqLeak (X k) (Y k)
          rw [hd] at hcmp
          have Hxy := hide hxy
          clear hd hxy
          have hg : Try.prog.eqGuardType Try.prog.depth 82 = false := by kernel_rfl
          go_wp2_with fail
          go_quiet (fail)
          go_wp2_with fail
          go_ret
          exact ⟨by rw [eqRows_false hlt Hxy.out]; rfl, below_drewN HB.out _⟩
      · obtain rfl : k = n := by omega
        clear hB
        have E := hide (eqRows_of he.out)
        go_wp2_with fail
        go_ret
        exact ⟨by rw [E.out]; rfl, HB.out⟩
  · have h0 : ¬ (n : Int) = (m : Int) := by omega
    have h1 : ((n : Int) == (m : Int)) = false := by simpa using h0
    have h2 : ((n : Int) != (m : Int)) = true := by simpa using h0
    clear h0
    go_enter Try.func41, Try.ntmps41
    go_wp2_with fail
    go_ret
    exact ⟨by simp [eqRows, hnm], Below.refl _ _⟩
set_option maxRecDepth 100000 in
theorem neqReceive (x y : EReceive) (w : World) : (binOp .neq 85 (.agg #[.string x.x0, .int .i64 x.x1, .int .i64 x.x2, .int .i64 x.x3, .int .i64 x.x4, .int .i64 x.x5, .bool x.x6, .int .i64 x.x7, .int .i64 x.x8]) (.agg #[.string y.x0, .int .i64 y.x1, .int .i64 y.x2, .int .i64 y.x3, .int .i64 y.x4, .int .i64 y.x5, .bool y.x6, .int .i64 y.x7, .int .i64 y.x8])).run Try.prog w = .ok (.bool (!decide (x = y))) w := by
  have u_bool := Try.underlying4; have a_bool := Try.isAgg4; have z_bool := Try.sizeOf4
  have u_int := Try.underlying3; have a_int := Try.isAgg3; have z_int := Try.sizeOf3
  have u_string := Try.underlying9; have a_string := Try.isAgg9; have z_string := Try.sizeOf9
  have hS : Try.prog.underlying 85 = some (.struct (Try.prog.fieldsOf 85)) := by kernel_rfl
  have hp : Try.prog.stoodInHeld 85 = false := by kernel_rfl
  rw [run_neq_struct, show (10000 : Nat) = 9999 + 1 from rfl, run_equalIn_agg w 9999 85 _ _ hS hp]
  simp only [Program.fieldsOf, Try.underlying85]
  clear hS hp
  go_simp
  obtain ⟨x0, x1, x2, x3, x4, x5, x6, x7, x8⟩ := x
  obtain ⟨y0, y1, y2, y3, y4, y5, y6, y7, y8⟩ := y
  dsimp only
  by_cases h0 : x0 = y0
  rotate_left
  · have g : ¬ x0.toList = y0.toList := fun e => h0 (toList_inj e)
    simp [g, h0]
  subst h0
  by_cases h1 : x1 = y1
  rotate_left
  · simp [h1]
  subst h1
  by_cases h2 : x2 = y2
  rotate_left
  · simp [h2]
  subst h2
  by_cases h3 : x3 = y3
  rotate_left
  · simp [h3]
  subst h3
  by_cases h4 : x4 = y4
  rotate_left
  · simp [h4]
  subst h4
  by_cases h5 : x5 = y5
  rotate_left
  · simp [h5]
  subst h5
  by_cases h6 : x6 = y6
  rotate_left
  · simp [h6]
  subst h6
  by_cases h7 : x7 = y7
  rotate_left
  · simp [h7]
  subst h7
  by_cases h8 : x8 = y8
  rotate_left
  · simp [h8]
  subst h8
  simp
set_option maxRecDepth 100000 in
set_option maxHeartbeats 1000000 in
theorem eqReceive (A B : Option Addr) (n m c d : Nat) (X Y : Nat → EReceive) (w : World) (hX : RReceive w A n X) (hY : RReceive w B m Y) :
    Calls Try.prog 42 #[.slice A n c, .slice B m d] w fun e w' => e = .returned (.bool (eqRows n m X Y)) ∧ Below w.heap.size w w' := by
  have hn := hX.1
  unfold maxLen at hn
  have HX := hide hX
  have HY := hide hY
  clear hX hY
  by_cases hnm : n = m
  · subst hnm
    go_enter Try.func42, Try.ntmps42
    go_wp2_with fail
    go_loopw [13] (fun i wr => ∃ k : Nat, k ≤ n ∧ i = .int .i64 k ∧ Hid (eqTo X Y k = true) ∧ Below w.heap.size w wr) (fun i _ => n - (intOf i).toNat)
    case atStart => exact ⟨0, by omega, rfl, hide rfl, Below.refl _ _⟩
    case round =>
      obtain ⟨k, hk, rfl, he, hB⟩ := hrel
      have HB := hide hB
      by_cases hlt : k < n
      · obtain ⟨a, rfl, ha, p0, p1, p2, p3, p4, p5, p6, p7, p8⟩ := (HX.out.below hB).at_ hlt
        obtain ⟨b, rfl, hb, q0, q1, q2, q3, q4, q5, q6, q7, q8⟩ := (HY.out.below hB).at_ hlt
        clear hB
        by_cases hxy : X k = Y k
        · have hd : decide (X k = Y k) = true := by simpa using hxy
          have hcmp := neqReceive (X k) (Y k)
          rw [hd] at hcmp
          have Hxy := hide hxy
          clear hd hxy
          have hg : Try.prog.eqGuardType Try.prog.depth 85 = false := by kernel_rfl
          go_wp2_with fail
          go_quiet (fail)
          go_wp2_with fail
          go_roundw
          case rel => exact ⟨k + 1, by omega, by go_num, hide (by rw [eqTo_snoc, he.out]; simpa using Hxy.out), below_drewN HB.out _⟩
          case measure => simp [intOf]; omega
        · have hd : decide (X k = Y k) = false := by simpa using hxy
          have hcmp := neqReceive (X k) (Y k)
          rw [hd] at hcmp
          have Hxy := hide hxy
          clear hd hxy
          have hg : Try.prog.eqGuardType Try.prog.depth 85 = false := by kernel_rfl
          go_wp2_with fail
          go_quiet (fail)
          go_wp2_with fail
          go_ret
          exact ⟨by rw [eqRows_false hlt Hxy.out]; rfl, below_drewN HB.out _⟩
      · obtain rfl : k = n := by omega
        clear hB
        have E := hide (eqRows_of he.out)
        go_wp2_with fail
        go_ret
        exact ⟨by rw [E.out]; rfl, HB.out⟩
  · have h0 : ¬ (n : Int) = (m : Int) := by omega
    have h1 : ((n : Int) == (m : Int)) = false := by simpa using h0
    have h2 : ((n : Int) != (m : Int)) = true := by simpa using h0
    clear h0
    go_enter Try.func42, Try.ntmps42
    go_wp2_with fail
    go_ret
    exact ⟨by simp [eqRows, hnm], Below.refl _ _⟩
set_option maxRecDepth 100000 in
theorem neqMessage (x y : EMessage) (w : World) : (binOp .neq 88 (.agg #[.string x.x0, .int .i64 x.x1, .int .i64 x.x2, .int .i64 x.x3, .int .i64 x.x4, .int .i64 x.x5, .int .i64 x.x6, .bool x.x7]) (.agg #[.string y.x0, .int .i64 y.x1, .int .i64 y.x2, .int .i64 y.x3, .int .i64 y.x4, .int .i64 y.x5, .int .i64 y.x6, .bool y.x7])).run Try.prog w = .ok (.bool (!decide (x = y))) w := by
  have u_bool := Try.underlying4; have a_bool := Try.isAgg4; have z_bool := Try.sizeOf4
  have u_int := Try.underlying3; have a_int := Try.isAgg3; have z_int := Try.sizeOf3
  have u_int64 := Try.underlying2; have a_int64 := Try.isAgg2; have z_int64 := Try.sizeOf2
  have u_string := Try.underlying9; have a_string := Try.isAgg9; have z_string := Try.sizeOf9
  have hS : Try.prog.underlying 88 = some (.struct (Try.prog.fieldsOf 88)) := by kernel_rfl
  have hp : Try.prog.stoodInHeld 88 = false := by kernel_rfl
  rw [run_neq_struct, show (10000 : Nat) = 9999 + 1 from rfl, run_equalIn_agg w 9999 88 _ _ hS hp]
  simp only [Program.fieldsOf, Try.underlying88]
  clear hS hp
  go_simp
  obtain ⟨x0, x1, x2, x3, x4, x5, x6, x7⟩ := x
  obtain ⟨y0, y1, y2, y3, y4, y5, y6, y7⟩ := y
  dsimp only
  by_cases h0 : x0 = y0
  rotate_left
  · have g : ¬ x0.toList = y0.toList := fun e => h0 (toList_inj e)
    simp [g, h0]
  subst h0
  by_cases h1 : x1 = y1
  rotate_left
  · simp [h1]
  subst h1
  by_cases h2 : x2 = y2
  rotate_left
  · simp [h2]
  subst h2
  by_cases h3 : x3 = y3
  rotate_left
  · simp [h3]
  subst h3
  by_cases h4 : x4 = y4
  rotate_left
  · simp [h4]
  subst h4
  by_cases h5 : x5 = y5
  rotate_left
  · simp [h5]
  subst h5
  by_cases h6 : x6 = y6
  rotate_left
  · simp [h6]
  subst h6
  by_cases h7 : x7 = y7
  rotate_left
  · simp [h7]
  subst h7
  simp
set_option maxRecDepth 100000 in
set_option maxHeartbeats 1000000 in
theorem eqMessage (A B : Option Addr) (n m c d : Nat) (X Y : Nat → EMessage) (w : World) (hX : RMessage w A n X) (hY : RMessage w B m Y) :
    Calls Try.prog 43 #[.slice A n c, .slice B m d] w fun e w' => e = .returned (.bool (eqRows n m X Y)) ∧ Below w.heap.size w w' := by
  have hn := hX.1
  unfold maxLen at hn
  have HX := hide hX
  have HY := hide hY
  clear hX hY
  by_cases hnm : n = m
  · subst hnm
    go_enter Try.func43, Try.ntmps43
    go_wp2_with fail
    go_loopw [13] (fun i wr => ∃ k : Nat, k ≤ n ∧ i = .int .i64 k ∧ Hid (eqTo X Y k = true) ∧ Below w.heap.size w wr) (fun i _ => n - (intOf i).toNat)
    case atStart => exact ⟨0, by omega, rfl, hide rfl, Below.refl _ _⟩
    case round =>
      obtain ⟨k, hk, rfl, he, hB⟩ := hrel
      have HB := hide hB
      by_cases hlt : k < n
      · obtain ⟨a, rfl, ha, p0, p1, p2, p3, p4, p5, p6, p7⟩ := (HX.out.below hB).at_ hlt
        obtain ⟨b, rfl, hb, q0, q1, q2, q3, q4, q5, q6, q7⟩ := (HY.out.below hB).at_ hlt
        clear hB
        by_cases hxy : X k = Y k
        · have hd : decide (X k = Y k) = true := by simpa using hxy
          have hcmp := neqMessage (X k) (Y k)
          rw [hd] at hcmp
          have Hxy := hide hxy
          clear hd hxy
          have hg : Try.prog.eqGuardType Try.prog.depth 88 = false := by kernel_rfl
          go_wp2_with fail
          go_quiet (fail)
          go_wp2_with fail
          go_roundw
          case rel => exact ⟨k + 1, by omega, by go_num, hide (by rw [eqTo_snoc, he.out]; simpa using Hxy.out), below_drewN HB.out _⟩
          case measure => simp [intOf]; omega
        · have hd : decide (X k = Y k) = false := by simpa using hxy
          have hcmp := neqMessage (X k) (Y k)
          rw [hd] at hcmp
          have Hxy := hide hxy
          clear hd hxy
          have hg : Try.prog.eqGuardType Try.prog.depth 88 = false := by kernel_rfl
          go_wp2_with fail
          go_quiet (fail)
          go_wp2_with fail
          go_ret
          exact ⟨by rw [eqRows_false hlt Hxy.out]; rfl, below_drewN HB.out _⟩
      · obtain rfl : k = n := by omega
        clear hB
        have E := hide (eqRows_of he.out)
        go_wp2_with fail
        go_ret
        exact ⟨by rw [E.out]; rfl, HB.out⟩
  · have h0 : ¬ (n : Int) = (m : Int) := by omega
    have h1 : ((n : Int) == (m : Int)) = false := by simpa using h0
    have h2 : ((n : Int) != (m : Int)) = true := by simpa using h0
    clear h0
    go_enter Try.func43, Try.ntmps43
    go_wp2_with fail
    go_ret
    exact ⟨by simp [eqRows, hnm], Below.refl _ _⟩
end Go.Proofs.Ytnmddeplchideaa.VerdictKindsW
