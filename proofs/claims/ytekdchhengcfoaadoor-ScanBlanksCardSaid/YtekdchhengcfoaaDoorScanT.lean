/- Whether rows of words are the same. -/
import Derived.Test.YtekdchhengcfoaaDoorRows
import Derived.Test.YtekdchhengcfoaaDoorScanS
import Derived.Test.YtekdchhengcfoaaDoorScanKinds
namespace Go.Proofs.YtekdchhengcfoaaDoor
open Go.RowKit
set_option linter.unusedVariables false
set_option linter.unusedSimpArgs false
/-- A row of words that is read. -/
def Row (w : World) (A : Option Addr) (c : Nat) (l : List Tok) : Prop := l.length ≤ c ∧ (0 < l.length → ∃ g, A = some ⟨g, 0, none⟩ ∧ g < w.heap.size ∧ ∀ j u, (toks l)[j]? = some u → w.cell? ⟨g, j, none⟩ = some u)
theorem Row.below {w w' : World} {A : Option Addr} {c : Nat} {l : List Tok} (h : Row w A c l) (hb : Below w.heap.size w w') : Row w' A c l :=
  ⟨h.1, fun h0 => by
    obtain ⟨g, rfl, h1, h2⟩ := h.2 h0
    exact ⟨g, rfl, Nat.lt_of_lt_of_le h1 hb.size, fun j u hj => (hb.cell (p := ⟨g, j, none⟩) h1).trans (h2 j u hj)⟩⟩
set_option maxRecDepth 100000 in
set_option maxHeartbeats 4000000 in
theorem same_yes (A A' : Option Addr) (c c' : Nat) (l : List Tok) (w : World) (h : Row w A c l) (h' : Row w A' c' l) (hl : l.length ≤ 20000) :
    Calls Tryd.prog 11 #[.slice A l.length c, .slice A' l.length c', .bool true] w fun e w' => e = .returned (.bool true) ∧ Below w.heap.size w w' := by
  have H := hide h
  have H' := hide h'
  clear h h'
  go_enter Tryd.func11, Tryd.ntmps11
  go_wp2_with fail
  go_loopw [7] (fun vi wr => ∃ i : Nat, i ≤ l.length ∧ vi = .int .i64 i ∧ Hid (Below w.heap.size w wr)) (fun vi _ => l.length - (intOf vi).toNat)
  case atStart => exact ⟨0, Nat.zero_le _, rfl, hide (Below.refl _ _)⟩
  case round =>
    obtain ⟨i, hi, rfl, HBr⟩ := hrel
    by_cases hlt : i < l.length
    · obtain ⟨hc1, hA⟩ := H.out.below HBr.out
      obtain ⟨hc2, hA'⟩ := H'.out.below HBr.out
      obtain ⟨g, rfl, hg, hcell⟩ := hA (by omega)
      obtain ⟨g', rfl, hg', hcell'⟩ := hA' (by omega)
      obtain ⟨t0, t1, t2, t3, t4⟩ := toks_at l i hlt
      have c0 := hcell _ _ t0
      have c1 := hcell _ _ t1
      have c2 := hcell _ _ t2
      have c3 := hcell _ _ t3
      have c4 := hcell _ _ t4
      have d0 := hcell' _ _ t0
      have d1 := hcell' _ _ t1
      have d2 := hcell' _ _ t2
      have d3 := hcell' _ _ t3
      have d4 := hcell' _ _ t4
      clear hcell hcell' t0 t1 t2 t3 t4 hA hA'
      generalize l[i] = tk at *
      obtain ⟨k, sx, v, ln, cl⟩ := tk
      simp only at c0 c1 c2 c3 c4 d0 d1 d2 d3 d4
      have es : (sx.toList == sx.toList) = true := by simp
      have hltI : (i : Int) < (l.length : Int) := by omega
      go_wp2_with fail
      go_region
      all_goals go_wp2_with fail
      all_goals
        go_roundw
        case rel => exact ⟨i + 1, by omega, by first | trivial | go_num, hide (((HBr.out.alloc HBr.out.size _).alloc (by have := HBr.out.size; simp; omega) _).drew)⟩
        case measure => simp [intOf]; omega
    · have hltI : ¬ (i : Int) < (l.length : Int) := by omega
      go_wp2_with fail
      go_ret
      exact ⟨rfl, HBr.out⟩
set_option maxRecDepth 100000 in
/-- The reference's scan of nothing. -/
theorem scan_b_nil (p : Option Addr) (cap : Nat) (s : ByteArray) (w : World) (h0 : s.size = 0) : Calls Tryd.prog 9 #[.slice p s.size cap] w fun e w' => ScanR s w.heap.size e w' ∧ Below w.heap.size w w' := by
  have R := hide (show ScanR s w.heap.size (.returned (.tuple #[.slice none 0 0, .int .i64 0, .int .i64 0, .int .i64 0])) w by
    unfold ScanR
    rw [if_neg (by omega)]
    exact ⟨[], none, .fin (by omega), Nat.zero_le _, .slice none 0 0, rfl, rfl, .inl ⟨rfl, rfl⟩⟩)
  rw [h0]
  go_enter Tryd.func9, Tryd.ntmps9
  go_wp2_with fail
  go_loopw [6, 7, 8, 9] (fun vl vpos vline vcol wr => vl = .slice none 0 0 ∧ vpos = .int .i64 0 ∧ w = wr) (fun _ _ _ _ _ => 0)
  case atStart => exact ⟨rfl, rfl, rfl⟩
  case round =>
    obtain ⟨rfl, rfl, rfl⟩ := hrel
    go_wp2_with fail
    exact bodyPost_ret (v := .tuple #[.slice none 0 0, .int .i64 0, .int .i64 0, .int .i64 0]) (by simp [results, Tryd.results9, go_sem]) rfl ⟨R.out, Below.refl _ _⟩
set_option maxRecDepth 100000 in
/-- The reference's scan of a text that is too long. -/
theorem scan_b_long (p : Option Addr) (cap : Nat) (s : ByteArray) (w : World) (h0 : 20000 < s.size) : Calls Tryd.prog 9 #[.slice p s.size cap] w fun e w' => ScanR s w.heap.size e w' ∧ Below w.heap.size w w' := by
  have h1 : (20000 : Int) < (s.size : Int) := by omega
  have R := hide (show ScanR s w.heap.size (.returned (.tuple #[.slice none 0 0, .int .i64 0, .int .i64 0, .int .i64 3])) w by unfold ScanR; rw [if_pos h0])
  clear h0
  go_enter Tryd.func9, Tryd.ntmps9
  go_wp2_with fail
  exact bodyPost_ret (v := .tuple #[.slice none 0 0, .int .i64 0, .int .i64 0, .int .i64 3]) (by simp [results, Tryd.results9, go_sem]) rfl ⟨R.out, Below.refl _ _⟩
/-- A scan's answer in one form: a row of words, two numbers, an error's number; two scans of one text agree. -/
def ScanA (s : ByteArray) (w' : World) (B : Nat) (e : Ending) (l : List Tok) (a b ev : Int) : Prop := ∃ A c, e = .returned (.tuple #[.slice A l.length c, .int .i64 a, .int .i64 b, .int .i64 ev]) ∧ Row w' A c l ∧ l.length ≤ 20000 ∧ (∀ g, A = some g → 0 < l.length → B ≤ g.block)
theorem scanR_one (s : ByteArray) : ∃ (l : List Tok) (a b ev : Int), ∀ e w' B, ScanR s B e w' → ScanA s w' B e l a b ev := by
  by_cases hlong : 20000 < s.size
  · refine ⟨[], 0, 0, 3, fun e w' B h => ?_⟩
    unfold ScanR at h
    rw [if_pos hlong] at h
    exact ⟨none, 0, h, ⟨Nat.le_refl _, fun h => absurd h (Nat.lt_irrefl 0)⟩, Nat.zero_le _, fun g h => by cases h⟩
  · by_cases hex : ∃ l er, Sc s 0 1 1 l er
    · obtain ⟨l, er, hsc⟩ := hex
      rcases er with _ | ⟨x, y⟩
      · refine ⟨l, 0, 0, 0, fun e w' B h => ?_⟩
        unfold ScanR at h
        rw [if_neg hlong] at h
        obtain ⟨l', er', h1, h3, h2⟩ := h
        obtain ⟨rfl, rfl⟩ := hsc.det h1
        obtain ⟨v, rfl, hown⟩ := h2
        rcases Nat.eq_zero_or_pos l.length with h0 | h0
        · obtain ⟨A, c, rfl, _⟩ := own_any hown
          exact ⟨A, c, rfl, ⟨by omega, fun h => by omega⟩, by omega, fun g _ h => by omega⟩
        · obtain ⟨g, c, rfl, h4, h5, h6, h7⟩ := own_slice hown h0
          refine ⟨_, c, rfl, ⟨h4, fun _ => ⟨g, rfl, h6, h7⟩⟩, by omega, fun g' hg' _ => ?_⟩
          cases hg'
          exact h5
      · refine ⟨[], x, y, 10, fun e w' B h => ?_⟩
        unfold ScanR at h
        rw [if_neg hlong] at h
        obtain ⟨l', er', h1, h3, h2⟩ := h
        obtain ⟨rfl, rfl⟩ := hsc.det h1
        exact ⟨none, 0, h2, ⟨Nat.le_refl _, fun h => absurd h (Nat.lt_irrefl 0)⟩, Nat.zero_le _, fun g h => by cases h⟩
    · refine ⟨[], 0, 0, 0, fun e w' B h => ?_⟩
      unfold ScanR at h
      rw [if_neg hlong] at h
      obtain ⟨l', er', h1, _⟩ := h
      exact absurd ⟨l', er', h1⟩ hex
end Go.Proofs.YtekdchhengcfoaaDoor
