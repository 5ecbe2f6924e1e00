/- The walk of the statement ScanTexts: for every row of words the two texts are the same; without conditions. -/
import Derived.Test.YtnmddeplchideaaRows
import Derived.Test.YtnmddeplchideaaTreeWords
import Derived.Test.YtnmddeplchideaaBuilder
import Derived.Test.YtnmddeplchideaaShelf
namespace Go.Proofs.Ytnmddeplchideaa.ScanTextsW
open Go.Joins Go.ChangeShapes Go.WideShapes Go.RowKit Go.Deep Go.Proofs.Ytnmddeplchideaa
set_option linter.unusedVariables false
set_option linter.unusedSimpArgs false
structure Tok where
  k : Int
  s : ByteArray
  n : Int
  l : Int
  c : Int
instance : Inhabited Tok := ⟨⟨0, ByteArray.empty, 0, 0, 0⟩⟩
def TokAt (w : World) (a : Addr) (i : Nat) (t : Tok) : Prop :=
  w.cell? (a.add (i * 5)) = some (.int .u8 t.k) ∧ w.cell? ⟨(a.add (i * 5)).block, (a.add (i * 5)).off + 1, none⟩ = some (.string t.s) ∧ w.cell? ⟨(a.add (i * 5)).block, (a.add (i * 5)).off + 2, none⟩ = some (.int .i64 t.n) ∧
    w.cell? ⟨(a.add (i * 5)).block, (a.add (i * 5)).off + 3, none⟩ = some (.int .i64 t.l) ∧ w.cell? ⟨(a.add (i * 5)).block, (a.add (i * 5)).off + 4, none⟩ = some (.int .i64 t.c)
/-- A row of words lies behind a slice. -/
def TokRow (w : World) (A : Option Addr) (n : Nat) (T : Nat → Tok) : Prop :=
  n ≤ maxLen ∧ ((n = 0) ∨ ∃ a, A = some a ∧ a.block < w.heap.size ∧ ∀ i, i < n → (T i).s.size ≤ maxLen ∧ TokAt w a i (T i))
theorem TokAt.keep {w w' : World} {a : Addr} {i : Nat} {t : Tok} (hk : ∀ p : Addr, p.block < w.heap.size → w'.cell? p = w.cell? p) (ha : a.block < w.heap.size) (h : TokAt w a i t) : TokAt w' a i t := by
  have e : (a.add (i * 5)).block = a.block := block_of_add a _
  obtain ⟨h0, h1, h2, h3, h4⟩ := h
  exact ⟨(hk _ (by rw [e]; exact ha)).trans h0, (hk _ (by show (a.add _).block < _; rw [e]; exact ha)).trans h1, (hk _ (by show (a.add _).block < _; rw [e]; exact ha)).trans h2, (hk _ (by show (a.add _).block < _; rw [e]; exact ha)).trans h3, (hk _ (by show (a.add _).block < _; rw [e]; exact ha)).trans h4⟩
theorem TokRow.below {w w' : World} {A : Option Addr} {n : Nat} {T : Nat → Tok} (h : TokRow w A n T) (hb : Below w.heap.size w w') : TokRow w' A n T := by
  rcases h with ⟨hn, rfl | ⟨a, rfl, ha, h⟩⟩
  · exact ⟨hn, .inl rfl⟩
  · exact ⟨hn, .inr ⟨a, rfl, Nat.lt_of_lt_of_le ha hb.size, fun i hi => ⟨(h i hi).1, (h i hi).2.keep (fun p hp => hb.cell hp) ha⟩⟩⟩
theorem TokRow.at_ {w : World} {A : Option Addr} {n : Nat} {T : Nat → Tok} (h : TokRow w A n T) {i : Nat} (hi : i < n) : ∃ a, A = some a ∧ a.block < w.heap.size ∧ (T i).s.size ≤ maxLen ∧ TokAt w a i (T i) := by
  rcases h with ⟨_, rfl | ⟨a, rfl, ha, h⟩⟩
  · omega
  · exact ⟨a, rfl, ha, h i hi⟩
section
variable {H : Type} {enc : TypeId × Value → H} {w : World} {base : Nat} {spare : Nat → Bool} {held : Bool}
theorem TokRow.of {fuel : Nat} {v : Value} {x : DataW H × List MemPlace} (h : DataW.trod enc Try.prog w base spare held fuel 61 [v] = some x) :
    ∃ A n c T, v = .slice A n c ∧ TokRow w A n T := by
  rcases open_slice_fuel Try.underlying61 Try.underlying63 (by kernel_rfl) (by kernel_rfl) h with h0 | ⟨a, len, cap, h0, hl, hm, hi⟩
  · obtain rfl : v = .slice none 0 0 := by simpa using h0
    exact ⟨none, 0, 0, fun _ => default, rfl, by unfold maxLen; omega, .inl rfl⟩
  · obtain rfl : v = .slice (some a) len cap := by simpa using h0
    have h : ∀ i, i < len → ∃ t : Tok, t.s.size ≤ maxLen ∧ TokAt w a i t := by
      intro i hik
      obtain ⟨v0, y0, n0, _, g0, t0⟩ := hi i hik 0 _ rfl
      obtain ⟨v1, y1, n1, _, g1, t1⟩ := hi i hik 1 _ rfl
      obtain ⟨v2, y2, n2, _, g2, t2⟩ := hi i hik 2 _ rfl
      obtain ⟨v3, y3, n3, _, g3, t3⟩ := hi i hik 3 _ rfl
      obtain ⟨v4, y4, n4, _, g4, t4⟩ := hi i hik 4 _ rfl
      obtain ⟨z0, e0, _, _⟩ := DataW.trod_int Try.underlying5 t0
      obtain ⟨z1, e1, _, hs⟩ := DataW.trod_string Try.underlying9 t1
      obtain ⟨z2, e2, _, _⟩ := DataW.trod_int Try.underlying2 t2
      obtain ⟨z3, e3, _, _⟩ := DataW.trod_int Try.underlying3 t3
      obtain ⟨z4, e4, _, _⟩ := DataW.trod_int Try.underlying3 t4
      obtain rfl : v0 = .int .u8 z0 := by simpa using e0
      obtain rfl : v1 = .string z1 := by simpa using e1
      obtain rfl : v2 = .int .i64 z2 := by simpa using e2
      obtain rfl : v3 = .int .i64 z3 := by simpa using e3
      obtain rfl : v4 = .int .i64 z4 := by simpa using e4
      rw [← Go.Deep.add_add] at g1 g2 g3 g4
      exact ⟨⟨z0, z1, z2, z3, z4⟩, hs, g0, g1, g2, g3, g4⟩
    obtain ⟨T, hT⟩ := choose_lt h
    rcases Nat.eq_zero_or_pos len with h0 | h0
    · exact ⟨some a, len, cap, T, rfl, by omega, .inl h0⟩
    · refine ⟨some a, len, cap, T, rfl, by omega, .inr ⟨a, rfl, ?_, hT⟩⟩
      obtain ⟨_, g, _⟩ := hT 0 h0
      rcases Nat.lt_or_ge a.block w.heap.size with h | h
      · exact h
      · have : w.cell? (a.add (0 * 5)) = none := by simp [World.cell?, Addr.add, Array.getElem?_eq_none h]
        rw [this] at g; cases g
end

def txt (T : Nat → Tok) : Nat → List UInt8
  | 0 => []
  | i + 1 => (txt T i ++ (if i = 0 then [] else [32])) ++ (T i).s.data.toList
theorem txt_le (T : Nat → Tok) (n : Nat) (h : ∀ i, i < n → (T i).s.size ≤ 100) : (txt T n).length ≤ n * 101 := by
  induction n with
  | zero => simp [txt]
  | succ n ih =>
    have h1 := ih fun i hi => h i (by omega)
    have h2 : (T n).s.data.toList.length ≤ 100 := h n (by omega)
    unfold txt
    by_cases h0 : n = 0
    · subst h0
      simp [txt] at h2 ⊢
      omega
    · simp [h0] at h2 ⊢
      omega
theorem app_str (l : List UInt8) (s : ByteArray) : (⟨l.toArray⟩ : ByteArray) ++ s = ⟨(l ++ s.data.toList).toArray⟩ := by
  apply ByteArray.ext
  simp
theorem txt_zero (T : Nat → Tok) (k : Nat) (h : ¬ (0 : Int) < (k : Int)) : (⟨(txt T k).toArray⟩ : ByteArray) ++ (T k).s = ⟨(txt T (k + 1)).toArray⟩ := by
  obtain rfl : k = 0 := by omega
  rw [app_str]; simp [txt]
theorem txt_more (T : Nat → Tok) (k : Nat) (h : (0 : Int) < (k : Int)) : (⟨(txt T k).toArray⟩ : ByteArray) ++ ⟨#[32]⟩ ++ (T k).s = ⟨(txt T (k + 1)).toArray⟩ := by
  have h0 : k ≠ 0 := by omega
  rw [app_str, app_str]; simp [txt, h0]
theorem size_txt (l : List UInt8) : (⟨l.toArray⟩ : ByteArray).size = l.length := by simp [ByteArray.size]
set_option maxRecDepth 100000 in
set_option maxHeartbeats 1000000 in
theorem text_b (A : Option Addr) (n c : Nat) (T : Nat → Tok) (w : World) (h : TokRow w A n T) (hn : n ≤ 100) (hall : ∀ i, i < n → (T i).s.size ≤ 100) :
    Calls Try.prog 30 #[.slice A n c] w fun e w' => e = .returned (.string ⟨(txt T n).toArray⟩) ∧ w = w' := by
  have H := hide h
  have HA := hide hall
  clear h hall
  go_enter Try.func30, Try.ntmps30
  go_wp2_with fail
  go_loop [3, 4] (fun v i => ∃ k : Nat, k ≤ n ∧ i = .int .i64 k ∧ v = .string ⟨(txt T k).toArray⟩) (fun _ i => n - (intOf i).toNat)
  case atStart => exact ⟨0, by omega, rfl, rfl⟩
  case round =>
    obtain ⟨k, hk, rfl, rfl⟩ := hrel
    by_cases hlt : k < n
    · obtain ⟨a, rfl, ha, _, h0, h1, h2, h3, h4⟩ := H.out.at_ hlt
      have hs := HA.out k hlt
      have hl := txt_le T k fun i hi => HA.out i (by omega)
      have hl2 : (txt T k).length ≤ 10100 := by omega
      have hl3 : ¬ 9223372036854775807 < (txt T k).length + (T k).s.size := by omega
      have hl4 : ¬ 9223372036854775807 < (txt T k).length + 1 + (T k).s.size := by omega
      have hl5 : ¬ 9223372036854775807 < (txt T k).length + 1 := by omega
      clear h0 h2 h3 h4
      by_cases hz : (0 : Int) < (k : Int)
      · have E := hide (txt_more T k hz)
        go_wp2_with fail
        go_round
        case rel => exact ⟨k + 1, by omega, by go_num, by rw [E.out]⟩
        case measure => simp [intOf]; omega
      · have E := hide (txt_zero T k hz)
        have hz2 : decide ((0 : Int) < (k : Int)) = false := by simpa using hz
        go_wp2_with fail
        go_round
        case rel => exact ⟨k + 1, by omega, by go_num, by rw [E.out]⟩
        case measure => simp [intOf]; omega
    · obtain rfl : k = n := by omega
      go_wp2_with fail
      go_ret
      exact ⟨rfl, rfl⟩
theorem byteCells_app (l : List UInt8) (s : ByteArray) : Lib.byteCells l ++ Lib.strCells s = Lib.byteCells (l ++ s.data.toList) := by simp [Lib.byteCells, Lib.strCells]
set_option maxRecDepth 100000 in
set_option maxHeartbeats 2000000 in
theorem text_a (A : Option Addr) (n c : Nat) (T : Nat → Tok) (w : World) (h : TokRow w A n T) (hn : n ≤ 100) (hall : ∀ i, i < n → (T i).s.size ≤ 100) :
    Calls Try.prog 29 #[.slice A n c] w fun e w' => e = .returned (.string ⟨(txt T n).toArray⟩) ∧ Below w.heap.size w w' := by
  have H := hide h
  have HA := hide hall
  clear h hall
  go_enter Try.func29, Try.ntmps29
  go_wp2_with fail
  go_loopw [8] (fun i wr => ∃ k : Nat, k ≤ n ∧ i = .int .i64 k ∧ Lib.IsBuilder 102 5 w.heap.size w.heap.size (Lib.byteCells (txt T k)) wr ∧ Below w.heap.size w wr) (fun i _ => n - (intOf i).toNat)
  case atStart => exact ⟨0, by omega, rfl, Lib.fresh_isBuilder _ _ w, (Below.refl _ _).alloc (Nat.le_refl _) _⟩
  case round =>
    obtain ⟨k, hk, rfl, hI, hB⟩ := hrel
    have hsz := hB.size
    have HI := hide hI
    have HB := hide hB
    by_cases hlt : k < n
    · obtain ⟨a, rfl, ha, _, h0, h1, h2, h3, h4⟩ := (H.out.below hB).at_ hlt
      have hs := HA.out k hlt
      have hl := txt_le T k fun i hi => HA.out i (by omega)
      have hl2 : (txt T k).length ≤ 10100 := by omega
      have hbl := isB_lt hI
      clear hI hB
      by_cases hz : (0 : Int) < (k : Int)
      · have hpos : k ≠ 0 := by omega
        have hsb : wr.heap.size ≠ w.heap.size := by omega
        have E : Hid (Lib.byteCells (txt T k) ++ [.int .u8 32] ++ Lib.strCells (T k).s = Lib.byteCells (txt T (k + 1))) := by
          refine hide ?_
          have : (Lib.byteCells (txt T k) ++ [.int .u8 32] : List Value) = Lib.byteCells (txt T k ++ [32]) := by simp [Lib.byteCells]
          rw [this, byteCells_app]; simp [txt, hpos]
        go_wp2_with fail
        refine (write_byte w.heap.size w.heap.size (Lib.byteCells (txt T k)) 32 _ (isB_alloc HI.out _) (by simp only [Lib.byteCells_length]; omega) (by simp; omega)).mono ?_
        rintro e w1 ⟨rfl, i1, b1, k1⟩
        have hblk := k1 wr.heap.size _ (heap_alloc_new wr _) (by simpa using hsb) (by intro c fz; simp)
        have q1 : w1.cell? ⟨wr.heap.size, 1, none⟩ = some (.string (T k).s) := by rw [Lib.cell_of_heap hblk]; rfl
        have hs1 := b1.size
        have I1 := hide i1
        have B1 := hide b1
        clear i1 b1 k1 hblk
        go_wp2_with fail
        refine (write_string w.heap.size w.heap.size _ (T k).s _ (.inr I1.out) (by simp only [List.length_append, Lib.byteCells_length, List.length_singleton]; omega) (by simp at hs1; omega)).mono ?_
        rintro e w2 ⟨rfl, i2, b2, k2⟩
        rw [E.out] at i2
        have I2 := hide i2
        have B2 := hide ((HB.out.alloc hsz _).trans (B1.out.trans b2))
        clear i2 b2 k2 hs1
        go_wp2_with fail
        go_roundw
        case rel => exact ⟨k + 1, by omega, by go_num, .inr I2.out, B2.out⟩
        case measure => simp [intOf]; omega
      · have hz2 : decide ((0 : Int) < (k : Int)) = false := by simpa using hz
        have hpos : k = 0 := by omega
        have hsb : wr.heap.size ≠ w.heap.size := by omega
        have E : Hid (Lib.byteCells (txt T k) ++ Lib.strCells (T k).s = Lib.byteCells (txt T (k + 1))) := by
          refine hide ?_
          rw [byteCells_app]; simp [txt, hpos]
        have HP := hide hpos
        clear hpos
        go_wp2_with fail
        refine (write_string w.heap.size w.heap.size (Lib.byteCells (txt T k)) (T k).s _ (isB_alloc HI.out _) (by simp only [Lib.byteCells_length]; omega) (by simp; omega)).mono ?_
        rintro e w2 ⟨rfl, i2, b2, k2⟩
        rw [E.out] at i2
        have I2 := hide i2
        have B2 := hide ((HB.out.alloc hsz _).trans b2)
        clear i2 b2 k2
        go_wp2_with fail
        go_roundw
        case rel => exact ⟨k + 1, by omega, by go_num, .inr I2.out, B2.out⟩
        case measure => simp [intOf]; omega
    · obtain rfl : k = n := by omega
      clear hI hB
      go_wp2_with fail
      refine (Try.Builder_String_any _ _ _ _ HI.out hsz).mono ?_
      rintro e w' ⟨rfl, hb⟩
      go_wp2_with fail
      go_ret
      exact ⟨rfl, HB.out.trans hb⟩
set_option maxRecDepth 100000 in
set_option maxHeartbeats 2000000 in
theorem walk {H : Type} {enc : TypeId × Value → H} {base : Nat} (W : World) (v0 : Value) (d0 : DataW H) (p0 : List MemPlace) (o0 : Value.okWide Try.prog W .any base 61 v0) (r0 : DataW.Trod enc Try.prog W 0 (fun _ => true) true 61 v0 d0 p0) :
    Calls Try.prog 7 #[v0] W fun e w' => e = .returned (.bool true) ∧ Below W.heap.size W w' := by
  obtain ⟨A0, n0, c0, rfl⟩ := okWide_slice Try.underlying61 o0
  obtain ⟨fuel, hf⟩ := r0
  obtain ⟨A, n, c, T, hv, hT⟩ := TokRow.of (show DataW.trod enc Try.prog W 0 (fun _ => true) true fuel 61 [.slice A0 n0 c0] = some (d0, p0) by simpa [Value.cells] using hf)
  obtain ⟨rfl, rfl, rfl⟩ : A0 = A ∧ n0 = n ∧ c0 = c := by simpa using hv
  clear hv hf o0
  have hm := hT.1
  unfold maxLen at hm
  have HT := hide hT
  clear hT
  by_cases h100 : 100 < n0
  · have h100' : (100 : Int) < (n0 : Int) := by omega
    go_enter Try.func7, Try.ntmps7
    go_wp2_with fail
    go_ret
    exact ⟨rfl, Below.refl _ _⟩
  · have h100' : ¬ (100 : Int) < (n0 : Int) := by omega
    go_enter Try.func7, Try.ntmps7
    go_wp2_with fail
    go_loop [3] (fun i => ∃ k : Nat, k ≤ n0 ∧ i = .int .i64 k ∧ Hid (∀ j, j < k → (T j).s.size ≤ 100)) (fun i => n0 - (intOf i).toNat)
    case atStart => exact ⟨0, by omega, rfl, hide (fun j hj => by omega)⟩
    case round =>
      obtain ⟨k, hk, rfl, hall⟩ := hrel
      by_cases hlt : k < n0
      · obtain ⟨a, rfl, ha, hs, h0, h1, h2, h3, h4⟩ := HT.out.at_ hlt
        unfold maxLen at hs
        clear h0 h2 h3 h4
        by_cases hg : (100 : Int) < ((T k).s.size : Int)
        · go_wp2_with fail
          go_ret
          exact ⟨rfl, Below.refl _ _⟩
        · go_wp2_with fail
          go_round
          case rel => exact ⟨k + 1, by omega, by go_num, hide (fun j hj => by
            by_cases e : j = k
            · subst e; omega
            · exact hall.out j (by omega))⟩
          case measure => simp [intOf]; omega
      · obtain rfl : k = n0 := by omega
        have E : Hid (∀ x : List UInt8, (x == x) = true) := hide fun x => by simp
        go_wp2_with fail
        refine (text_a _ _ _ T _ HT.out (by omega) hall.out).mono ?_
        rintro e w1 ⟨rfl, b1⟩
        go_wp2_with fail
        refine (text_b _ _ _ T _ (HT.out.below b1) (by omega) hall.out).mono ?_
        rintro e w2 ⟨rfl, rfl⟩
        go_wp2_with fail
        go_ret
        exact ⟨by simp, b1⟩
end Go.Proofs.Ytnmddeplchideaa.ScanTextsW
