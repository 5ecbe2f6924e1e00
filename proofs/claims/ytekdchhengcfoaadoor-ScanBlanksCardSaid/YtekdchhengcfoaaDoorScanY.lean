/- scan.Text of a row of words; Same of rows that are alike but for places. -/
import Derived.Test.YtekdchhengcfoaaDoorRows
import Derived.Test.YtekdchhengcfoaaDoorScanW
import Derived.Test.YtekdchhengcfoaaDoorBuilder
import Derived.Test.YtekdchhengcfoaaDoorShelf
namespace Go.Proofs.YtekdchhengcfoaaDoor
open Go.RowKit
set_option linter.unusedVariables false
set_option linter.unusedSimpArgs false
theorem byteCells_app (l : List UInt8) (s : ByteArray) : Lib.byteCells l ++ Lib.strCells s = Lib.byteCells (l ++ s.data.toList) := by simp [Lib.byteCells, Lib.strCells]
/-- What is left to write. -/
def rst (l : List Tok) (k : Nat) : List UInt8 := if k = 0 then jn l else tl (l.drop k)
theorem rst_zero {l : List Tok} {cur : List UInt8} (h : 0 < l.length) (hc : cur ++ rst l 0 = jn l) : (cur ++ l[0].s.data.toList) ++ rst l 1 = jn l := by
  cases l with
  | nil => simp at h
  | cons t l => simpa [rst, jn] using hc
theorem rst_more {l : List Tok} {cur : List UInt8} {k : Nat} (hk : k < l.length) (h0 : k ≠ 0) (hc : cur ++ rst l k = jn l) : (cur ++ [32] ++ l[k].s.data.toList) ++ rst l (k + 1) = jn l := by
  rw [rst, if_neg h0, List.drop_eq_getElem_cons hk, tl] at hc
  rw [rst, if_neg (by omega), ← hc]
  simp
theorem rst_zero' {l : List Tok} {cur : List UInt8} {k : Nat} (hk : k < l.length) (h0 : k = 0) (hc : cur ++ rst l k = jn l) : (cur ++ l[k].s.data.toList) ++ rst l (k + 1) = jn l := by
  subst h0
  exact rst_zero hk hc
theorem jn_get {l : List Tok} {cur : List UInt8} {k : Nat} (hk : k < l.length) (hc : cur ++ rst l k = jn l) : l[k].s.size ≤ (jn l).length := by
  have e : (l[k]).s.data.toList.length = (l[k]).s.size := rfl
  by_cases h0 : k = 0
  · have := congrArg List.length (rst_zero' hk h0 hc)
    simp only [List.length_append] at this
    omega
  · have := congrArg List.length (rst_more hk h0 hc)
    simp only [List.length_append] at this
    omega
theorem rst_end {l : List Tok} {cur : List UInt8} (hc : cur ++ rst l l.length = jn l) : cur = jn l := by
  cases l with
  | nil => simpa [rst, jn] using hc
  | cons t l => simpa [rst, tl] using hc
set_option maxRecDepth 100000 in
set_option maxHeartbeats 2000000 in
theorem text_r (A : Option Addr) (c : Nat) (l : List Tok) (w : World) (h : Row w A c l) (hn : l.length ≤ 20000) (hlen : (jn l).length ≤ 1000000) :
    Calls Tryd.prog 19 #[.slice A l.length c] w fun e w' => e = .returned (.string (bytes (jn l))) ∧ Below w.heap.size w w' := by
  have H := hide h
  clear h
  go_enter Tryd.func19, Tryd.ntmps19
  go_wp2_with fail
  go_loopw [8] (fun i wr => ∃ (k : Nat) (cur : List UInt8), k ≤ l.length ∧ i = .int .i64 k ∧ Hid (cur ++ rst l k = jn l) ∧ Lib.IsBuilder 52 5 w.heap.size w.heap.size (Lib.byteCells cur) wr ∧ Below w.heap.size w wr) (fun i _ => l.length - (intOf i).toNat)
  case atStart => exact ⟨0, [], by omega, rfl, hide (by simp [rst]), Lib.fresh_isBuilder _ _ w, (Below.refl _ _).alloc (Nat.le_refl _) _⟩
  case round =>
    obtain ⟨k, cur, hk, rfl, RS, hI, hB⟩ := hrel
    have hsz := hB.size
    have HI := hide hI
    have HB := hide hB
    have hcl : cur.length ≤ 1000000 := by
      have := congrArg List.length RS.out
      rw [List.length_append] at this
      omega
    by_cases hlt : k < l.length
    · obtain ⟨hc1, hA⟩ := H.out.below hB
      obtain ⟨g, rfl, hg, hcell⟩ := hA (by omega)
      obtain ⟨t0, t1, t2, t3, t4⟩ := toks_at l k hlt
      have c0 := hcell _ _ t0
      have c1 := hcell _ _ t1
      have c2 := hcell _ _ t2
      have c3 := hcell _ _ t3
      have c4 := hcell _ _ t4
      have hbl := isB_lt hI
      have hltI : (k : Int) < (l.length : Int) := by omega
      have R0 := hide (fun h0 => rst_zero' hlt h0 RS.out)
      have R1 := hide (fun h0 => rst_more hlt h0 RS.out)
      have hx : (l[k]).s.size ≤ 1000000 := Nat.le_trans (jn_get hlt RS.out) hlen
      clear hI hB hcell hA t0 t1 t2 t3 t4
      generalize l[k] = tk at *
      obtain ⟨kk, sx, v, ln, cl⟩ := tk
      simp only at c0 c1 c2 c3 c4 hx R0 R1
      by_cases hz : (0 : Int) < (k : Int)
      · have hpos : k ≠ 0 := by omega
        have hsb : wr.heap.size ≠ w.heap.size := by omega
        have E : Hid (Lib.byteCells cur ++ [.int .u8 32] ++ Lib.strCells sx = Lib.byteCells (cur ++ [32] ++ sx.data.toList)) := by
          refine hide ?_
          have : (Lib.byteCells cur ++ [.int .u8 32] : List Value) = Lib.byteCells (cur ++ [32]) := by simp [Lib.byteCells]
          rw [this, byteCells_app]
        go_wp2_with fail
        refine (write_byte w.heap.size w.heap.size (Lib.byteCells cur) 32 _ (isB_alloc HI.out _) (by simp only [Lib.byteCells_length]; omega) (by simp; omega)).mono ?_
        rintro e w1 ⟨rfl, i1, b1, k1⟩
        have hblk := k1 wr.heap.size _ (heap_alloc_new wr _) (by simpa using hsb) (by intro c fz; simp)
        have q1 : w1.cell? ⟨wr.heap.size, 1, none⟩ = some (.string sx) := by rw [Lib.cell_of_heap hblk]; rfl
        have hs1 := b1.size
        have I1 := hide i1
        have B1 := hide b1
        clear i1 b1 k1 hblk
        go_wp2_with fail
        refine (write_string w.heap.size w.heap.size _ sx _ (.inr I1.out) (by simp only [List.length_append, Lib.byteCells_length, List.length_singleton]; omega) (by simp at hs1; omega)).mono ?_
        rintro e w2 ⟨rfl, i2, b2, k2⟩
        rw [E.out] at i2
        have I2 := hide i2
        have B2 := hide ((HB.out.alloc hsz _).trans (B1.out.trans b2))
        clear i2 b2 k2 hs1
        go_wp2_with fail
        go_roundw
        case rel => exact ⟨k + 1, _, by omega, by go_num, hide (R1.out hpos), .inr I2.out, B2.out⟩
        case measure => simp [intOf]; omega
      · have hz2 : decide ((0 : Int) < (k : Int)) = false := by simpa using hz
        have hpos : k = 0 := by omega
        have hsb : wr.heap.size ≠ w.heap.size := by omega
        have E : Hid (Lib.byteCells cur ++ Lib.strCells sx = Lib.byteCells (cur ++ sx.data.toList)) := hide (byteCells_app _ _)
        have HP := hide hpos
        clear hpos
        go_wp2_with fail
        refine (write_string w.heap.size w.heap.size (Lib.byteCells cur) sx _ (isB_alloc HI.out _) (by simp only [Lib.byteCells_length]; omega) (by simp; omega)).mono ?_
        rintro e w2 ⟨rfl, i2, b2, k2⟩
        rw [E.out] at i2
        have I2 := hide i2
        have B2 := hide ((HB.out.alloc hsz _).trans b2)
        clear i2 b2 k2
        go_wp2_with fail
        go_roundw
        case rel => exact ⟨k + 1, _, by omega, by go_num, hide (R0.out HP.out), .inr I2.out, B2.out⟩
        case measure => simp [intOf]; omega
    · obtain rfl : k = l.length := by omega
      have E : Hid (cur = jn l) := hide (rst_end RS.out)
      clear hI hB
      have hltI : ¬ (l.length : Int) < (l.length : Int) := by omega
      go_wp2_with fail
      refine (Tryd.Builder_String_any _ _ _ _ HI.out hsz).mono ?_
      rintro e w' ⟨rfl, hb⟩
      rw [E.out]
      go_wp2_with fail
      go_ret
      exact ⟨rfl, HB.out.trans hb⟩
set_option maxRecDepth 100000 in
set_option maxHeartbeats 4000000 in
theorem same_al (A A' : Option Addr) (c c' : Nat) (l l' : List Tok) (w : World) (h : Row w A c l) (h' : Row w A' c' l') (hl : l.length ≤ 20000) (hal : Alike l l') :
    Calls Tryd.prog 11 #[.slice A l.length c, .slice A' l'.length c', .bool false] w fun e w' => e = .returned (.bool true) ∧ Below w.heap.size w w' := by
  have H := hide h
  have H' := hide h'
  have AL := hide hal.2
  have hll := hal.1
  rw [← hll]
  clear h h' hal
  go_enter Tryd.func11, Tryd.ntmps11
  go_wp2_with fail
  go_loopw [7] (fun vi wr => ∃ i : Nat, i ≤ l.length ∧ vi = .int .i64 i ∧ Hid (Below w.heap.size w wr)) (fun vi _ => l.length - (intOf vi).toNat)
  case atStart => exact ⟨0, Nat.zero_le _, rfl, hide (Below.refl _ _)⟩
  case round =>
    obtain ⟨i, hi, rfl, HBr⟩ := hrel
    by_cases hlt : i < l.length
    · obtain ⟨hc1, hA⟩ := H.out.below HBr.out
      obtain ⟨hc2, hA'⟩ := H'.out.below HBr.out
      obtain ⟨g, rfl, hg, hcell⟩ := hA (by omega)
      obtain ⟨g', rfl, hg', hcell'⟩ := hA' (by omega)
      obtain ⟨t0, t1, t2, t3, t4⟩ := toks_at l i hlt
      obtain ⟨s0, s1, s2, s3, s4⟩ := toks_at l' i (by omega)
      obtain ⟨a0, a1, a2⟩ := AL.out i hlt (by omega)
      have c0 := hcell _ _ t0
      have c1 := hcell _ _ t1
      have c2 := hcell _ _ t2
      have c3 := hcell _ _ t3
      have c4 := hcell _ _ t4
      have d0 := hcell' _ _ s0
      have d1 := hcell' _ _ s1
      have d2 := hcell' _ _ s2
      have d3 := hcell' _ _ s3
      have d4 := hcell' _ _ s4
      rw [← a0] at d0
      rw [← a1] at d1
      rw [← a2] at d2
      clear hcell hcell' t0 t1 t2 t3 t4 s0 s1 s2 s3 s4 hA hA' a0 a1 a2
      generalize l[i] = tk at *
      generalize l'[i] = tk' at *
      obtain ⟨k, sx, v, ln, cl⟩ := tk
      obtain ⟨k', sx', v', ln', cl'⟩ := tk'
      simp only at c0 c1 c2 c3 c4 d0 d1 d2 d3 d4
      have es : (sx.toList == sx.toList) = true := by simp
      have hltI : (i : Int) < (l.length : Int) := by omega
      go_wp2_with fail
      go_region
      all_goals go_wp2_with fail
      all_goals
        go_roundw
        case rel => exact ⟨i + 1, by omega, by first | trivial | go_num, hide (((HBr.out.alloc HBr.out.size _).alloc (by have := HBr.out.size; simp; omega) _).drew)⟩
        case measure => simp [intOf]; omega
    · have hltI : ¬ (i : Int) < (l.length : Int) := by omega
      go_wp2_with fail
      go_ret
      exact ⟨rfl, HBr.out⟩
end Go.Proofs.YtekdchhengcfoaaDoor
