/- Rows of letters and digits, signs and names: the contracts, at every text. -/
import Derived.Test.YtekdchhengcfoaaDoorRows
import Derived.Test.YtekdchhengcfoaaDoorScanA
namespace Go.Proofs.YtekdchhengcfoaaDoor
open Go.RowKit
set_option linter.unusedVariables false
set_option linter.unusedSimpArgs false
/-- How many bytes from a place on are of a class: the place behind them. -/
def runFrom (p : Int → Bool) (s : ByteArray) (pos : Nat) : Nat :=
  if h : pos < s.size then (if (s[pos]).toNat < 128 ∧ p (s[pos]).toNat = true then runFrom p s (pos + 1) else pos) else pos
termination_by s.size - pos
theorem runFrom_stop {p : Int → Bool} {s : ByteArray} {pos : Nat} (h : pos < s.size) (hn : ¬ ((s[pos]).toNat < 128 ∧ p (s[pos]).toNat = true)) : runFrom p s pos = pos := by
  unfold runFrom; rw [dif_pos h, if_neg hn]
theorem runFrom_go {p : Int → Bool} {s : ByteArray} {pos : Nat} (h : pos < s.size) (hy : (s[pos]).toNat < 128 ∧ p (s[pos]).toNat = true) : runFrom p s pos = runFrom p s (pos + 1) := by
  conv => lhs; unfold runFrom
  rw [dif_pos h, if_pos hy]
theorem runFrom_end {p : Int → Bool} {s : ByteArray} {pos : Nat} (h : ¬ pos < s.size) : runFrom p s pos = pos := by
  unfold runFrom; rw [dif_neg h]
set_option maxRecDepth 100000 in
set_option maxHeartbeats 2000000 in
theorem row_lod (s : ByteArray) (w : World) (hs : s.size ≤ 9223372036854775807) : Calls Tryd.prog 29 #[.string s, .func (.func 30) #[] #[]] w fun e w' => e = .returned (.int .i64 (runFrom isLod s 0)) ∧ Below w.heap.size w w' := by
  go_enter Tryd.func29, Tryd.ntmps29
  go_wp2_with fail
  go_loopw [] (fun wr => ∃ pos : Nat, pos ≤ s.size ∧ wr.heap[w.heap.size]? = some (.stringIter s pos) ∧ Below w.heap.size w wr ∧ runFrom isLod s pos = runFrom isLod s 0) (fun wr => s.size - wr.iterPos w.heap.size)
  case atStart => exact ⟨0, by omega, World.iter_heap w s 0, (Below.refl _ w).alloc (Nat.le_refl _) _, rfl⟩
  case round =>
    obtain ⟨pos, hpos, hit, hbw, hrun⟩ := hrel
    have Hit := hide hit
    have Hbw := hide hbw
    have Hrun := hide hrun
    have hsz : w.heap.size < wr.heap.size := (Array.getElem?_eq_some_iff.1 hit).1
    clear hit hbw hrun
    by_cases hp : pos < s.size
    · by_cases ha : (s[pos]).toNat < 128
      · have hnx : ∀ ty, (Instr.next (.pointer (some ⟨w.heap.size, 0, none⟩)) true ty).run Tryd.prog wr = _ := fun ty => Lib.run_next_ascii_at wr w.heap.size s pos ty Hit.out hp ha
        have hit2 := hide (Lib.iterAt_heap wr w.heap.size s pos (pos + 1) Hit.out)
        have hbw2 := hide (Lib.below_iterAt Hbw.out (k := w.heap.size) (Nat.le_refl _) s (pos + 1))
        by_cases hc : isLod (s[pos]).toNat = true
        · have R := hide ((runFrom_go hp ⟨ha, hc⟩).symm.trans Hrun.out)
          go_wp2_with fail
          refine (lod_a _ _).mono ?_
          rintro e w' ⟨rfl, rfl⟩
          go_wp2_with fail
          go_roundw
          case rel => exact ⟨pos + 1, by omega, hit2.out, hbw2.out, R.out⟩
          case measure =>
            simp only [World.iterPos, hit2.out, Hit.out]
            omega
        · have hc' : isLod (s[pos]).toNat = false := by simpa using hc
          have R := hide ((runFrom_stop (p := isLod) hp (fun h => hc h.2)).symm.trans Hrun.out)
          clear hc
          go_wp2_with fail
          refine (lod_a _ _).mono ?_
          rintro e w' ⟨rfl, rfl⟩
          go_wp2_with fail
          go_ret
          exact ⟨by rw [← R.out]; rfl, hbw2.out⟩
      · have hnx : ∀ ty, (Instr.next (.pointer (some ⟨w.heap.size, 0, none⟩)) true ty).run Tryd.prog wr = _ := fun ty => Lib.run_next_any_at wr w.heap.size s pos ty Hit.out hp
        have hbw2 := hide (Lib.below_iterAt Hbw.out (k := w.heap.size) (Nat.le_refl _) s (pos + (Utf8.decode s pos).2))
        have hd := (decode_high s pos hp (by omega)).1
        have hd' : (127 : Int) < ((Utf8.decode s pos).1 : Int) := by omega
        have R := hide ((runFrom_stop (p := isLod) hp (fun h => ha h.1)).symm.trans Hrun.out)
        go_wp2_with fail
        go_ret
        exact ⟨by rw [← R.out]; rfl, hbw2.out⟩
    · have hnx : ∀ ty, (Instr.next (.pointer (some ⟨w.heap.size, 0, none⟩)) true ty).run Tryd.prog wr = _ := fun ty => Lib.run_next_end_at wr w.heap.size s pos ty Hit.out hp
      obtain rfl : pos = s.size := by omega
      have R := hide ((runFrom_end hp).symm.trans Hrun.out)
      go_wp2_with fail
      go_ret
      exact ⟨by rw [← R.out]; rfl, Hbw.out⟩
set_option maxRecDepth 100000 in
set_option maxHeartbeats 2000000 in
theorem row_dig (s : ByteArray) (w : World) (hs : s.size ≤ 9223372036854775807) : Calls Tryd.prog 29 #[.string s, .func (.func 39) #[] #[]] w fun e w' => e = .returned (.int .i64 (runFrom isDig s 0)) ∧ Below w.heap.size w w' := by
  go_enter Tryd.func29, Tryd.ntmps29
  go_wp2_with fail
  go_loopw [] (fun wr => ∃ pos : Nat, pos ≤ s.size ∧ wr.heap[w.heap.size]? = some (.stringIter s pos) ∧ Below w.heap.size w wr ∧ runFrom isDig s pos = runFrom isDig s 0) (fun wr => s.size - wr.iterPos w.heap.size)
  case atStart => exact ⟨0, by omega, World.iter_heap w s 0, (Below.refl _ w).alloc (Nat.le_refl _) _, rfl⟩
  case round =>
    obtain ⟨pos, hpos, hit, hbw, hrun⟩ := hrel
    have Hit := hide hit
    have Hbw := hide hbw
    have Hrun := hide hrun
    have hsz : w.heap.size < wr.heap.size := (Array.getElem?_eq_some_iff.1 hit).1
    clear hit hbw hrun
    by_cases hp : pos < s.size
    · by_cases ha : (s[pos]).toNat < 128
      · have hnx : ∀ ty, (Instr.next (.pointer (some ⟨w.heap.size, 0, none⟩)) true ty).run Tryd.prog wr = _ := fun ty => Lib.run_next_ascii_at wr w.heap.size s pos ty Hit.out hp ha
        have hit2 := hide (Lib.iterAt_heap wr w.heap.size s pos (pos + 1) Hit.out)
        have hbw2 := hide (Lib.below_iterAt Hbw.out (k := w.heap.size) (Nat.le_refl _) s (pos + 1))
        by_cases hc : isDig (s[pos]).toNat = true
        · have R := hide ((runFrom_go hp ⟨ha, hc⟩).symm.trans Hrun.out)
          go_wp2_with fail
          refine (dig_a _ _).mono ?_
          rintro e w' ⟨rfl, rfl⟩
          go_wp2_with fail
          go_roundw
          case rel => exact ⟨pos + 1, by omega, hit2.out, hbw2.out, R.out⟩
          case measure =>
            simp only [World.iterPos, hit2.out, Hit.out]
            omega
        · have hc' : isDig (s[pos]).toNat = false := by simpa using hc
          have R := hide ((runFrom_stop (p := isDig) hp (fun h => hc h.2)).symm.trans Hrun.out)
          clear hc
          go_wp2_with fail
          refine (dig_a _ _).mono ?_
          rintro e w' ⟨rfl, rfl⟩
          go_wp2_with fail
          go_ret
          exact ⟨by rw [← R.out]; rfl, hbw2.out⟩
      · have hnx : ∀ ty, (Instr.next (.pointer (some ⟨w.heap.size, 0, none⟩)) true ty).run Tryd.prog wr = _ := fun ty => Lib.run_next_any_at wr w.heap.size s pos ty Hit.out hp
        have hbw2 := hide (Lib.below_iterAt Hbw.out (k := w.heap.size) (Nat.le_refl _) s (pos + (Utf8.decode s pos).2))
        have hd := (decode_high s pos hp (by omega)).1
        have hd' : (127 : Int) < ((Utf8.decode s pos).1 : Int) := by omega
        have R := hide ((runFrom_stop (p := isDig) hp (fun h => ha h.1)).symm.trans Hrun.out)
        go_wp2_with fail
        go_ret
        exact ⟨by rw [← R.out]; rfl, hbw2.out⟩
    · have hnx : ∀ ty, (Instr.next (.pointer (some ⟨w.heap.size, 0, none⟩)) true ty).run Tryd.prog wr = _ := fun ty => Lib.run_next_end_at wr w.heap.size s pos ty Hit.out hp
      obtain rfl : pos = s.size := by omega
      have R := hide ((runFrom_end hp).symm.trans Hrun.out)
      go_wp2_with fail
      go_ret
      exact ⟨by rw [← R.out]; rfl, Hbw.out⟩
end Go.Proofs.YtekdchhengcfoaaDoor
