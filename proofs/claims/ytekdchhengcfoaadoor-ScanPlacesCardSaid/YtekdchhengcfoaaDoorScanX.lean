/- The contracts of offset and gap. -/
import Derived.Test.YtekdchhengcfoaaDoorRows
import Derived.Test.YtekdchhengcfoaaDoorScanV
namespace Go.Proofs.YtekdchhengcfoaaDoor
open Go.RowKit
set_option linter.unusedVariables false
set_option linter.unusedSimpArgs false
theorem cnt_one {s : ByteArray} {at_ ls : Nat} (h : at_ < ls) (h1 : 0 < ls → nlAt s (ls - 1) = 1) : 1 ≤ cnt s at_ (ls - at_) := by
  have e : ls - at_ = (ls - 1 - at_) + 1 := by omega
  have e2 : at_ + (ls - 1 - at_) = ls - 1 := by omega
  rw [e, cnt_add, e2, cnt, h1 (by omega)]
  omega
theorem cnt_bd (s : ByteArray) : ∀ (n a : Nat), cnt s a n ≤ n
  | 0, _ => Nat.le_refl _
  | n + 1, a => by
    have h1 := cnt_bd s n (a + 1)
    have h2 : nlAt s a ≤ 1 := by unfold nlAt; split <;> (try split) <;> omega
    rw [cnt]; omega
set_option maxRecDepth 100000 in
set_option maxHeartbeats 2000000 in
theorem offset_c (a : Option Addr) (cap : Nat) (s : ByteArray) (line col p : Nat) (lineI colI pI : Int) (hlI : lineI = line) (hcI : colI = col) (hpI : pI = p) (w : World) (hs : s.size ≤ 20000) (hT : TextAt w a s) (hpl : Place s line col p) :
    Calls Tryd.prog 20 #[.slice a s.size cap, .int .i64 lineI, .int .i64 colI] w fun e w' => e = .returned (.int .i64 pI) ∧ w = w' := by
  obtain ⟨ls, h1, h2, rfl, rfl, h5, h6⟩ := hpl
  have X : Hid (∀ j (h : j < s.size), ∃ x, a = some x ∧ w.cell? (x.add j) = some (.int .u8 ((s[j]).toNat : Int))) := hide fun j hj => by
    rcases hT with ⟨_, h0⟩ | ⟨x, e, hx⟩
    · omega
    · exact ⟨x, e, hx j hj⟩
  have H5 := hide h5
  have HL := hide hlI
  clear hT h5 h6 hlI
  have e2 : ¬ colI < 1 := by omega
  have e3 : ¬ (s.size : Int) - ls + 1 < colI := by omega
  have e4 : (ls : Int) + colI - 1 = pI := by omega
  have e5 : colI ≤ 20001 := by omega
  clear hcI hpI
  go_enter Tryd.func20, Tryd.ntmps20
  go_wp2_with fail
  go_loopw [1, 7] (fun vline vat wr => ∃ (k : Nat) (z : Int), k ≤ ls ∧ vat = .int .i64 k ∧ vline = .int .i64 z ∧ Hid (z = 1 + (cnt s k (ls - k) : Int)) ∧ w = wr) (fun _ vat _ => ls - (intOf vat).toNat)
  case atStart => exact ⟨0, lineI, Nat.zero_le _, rfl, rfl, hide (by have := HL.out; simp at this ⊢; exact this), rfl⟩
  case round =>
    obtain ⟨k, z, hk, rfl, rfl, HZ, rfl⟩ := hrel
    by_cases hlt : k < ls
    · obtain ⟨x, rfl, hc⟩ := X.out k (by omega)
      have c1 := cnt_one hlt H5.out
      have e : ls - k = (ls - (k + 1)) + 1 := by omega
      have hkI : (k : Int) < (s.size : Int) := by omega
      have hz := HZ.out
      have hgI : (1 : Int) < z := by omega
      have hbd := cnt_bd s (ls - k) k
      by_cases hn : (s[k]'(by omega)).toNat = 10
      · have cn : (((s[k]'(by omega)).toNat : Int) == 10) = true := by simp [hn]
        have e6 : cnt s k (ls - k) = 1 + cnt s (k + 1) (ls - (k + 1)) := by rw [e, cnt, nlAt_yes (by omega) hn]
        have hz2 := hide (show z - 1 = 1 + (cnt s (k + 1) (ls - (k + 1)) : Int) by omega)
        have hz3 : z ≤ 20001 := by omega
        clear hn e6 c1 e hz hbd
        go_wp2_with fail
        go_roundw
        case rel => exact ⟨k + 1, z - 1, by omega, by first | trivial | go_num, by first | trivial | go_num, hz2, by first | rfl | trivial⟩
        case measure => simp [intOf]; omega
      · have cn : (((s[k]'(by omega)).toNat : Int) == 10) = false := by
          have : ¬ ((s[k]'(by omega)).toNat : Int) = 10 := by omega
          simpa using this
        have e6 : cnt s k (ls - k) = cnt s (k + 1) (ls - (k + 1)) := by rw [e, cnt, nlAt_no (by omega) hn]; omega
        have hz2 := hide (show z = 1 + (cnt s (k + 1) (ls - (k + 1)) : Int) by omega)
        clear hn e6 c1 e hz hbd
        go_wp2_with fail
        go_roundw
        case rel => exact ⟨k + 1, z, by omega, by first | trivial | go_num, rfl, hz2, by first | rfl | trivial⟩
        case measure => simp [intOf]; omega
    · obtain rfl : k = ls := by omega
      obtain rfl : z = 1 := by have := HZ.out; rw [Nat.sub_self] at this; simpa [cnt] using this
      go_wp2_with fail
      go_ret
      exact ⟨rfl, rfl⟩
set_option maxRecDepth 100000 in
set_option maxHeartbeats 2000000 in
theorem gap_c (A : Option Addr) (n cap lo : Nat) (s : ByteArray) (w : World) (hn : lo + n ≤ s.size) (hs : s.size ≤ 20000) (hT : ∀ j (h : j < n), ∃ x, A = some x ∧ w.cell? (x.add j) = some (.int .u8 ((s[lo + j]'(by omega)).toNat : Int))) (hg : ∃ r, gapS s n lo false = some r) :
    Calls Tryd.prog 21 #[.slice A n cap] w fun e w' => e = .returned (.bool true) ∧ w = w' := by
  have X := hide hT
  have HG := hide hg
  clear hT hg
  go_enter Tryd.func21, Tryd.ntmps21
  go_wp2_with fail
  go_loopw [3, 4] (fun vr vi wr => ∃ (k : Nat) (r : Bool), k ≤ n ∧ vi = .int .i64 k ∧ vr = .bool r ∧ Hid (∃ r', gapS s (n - k) (lo + k) r = some r') ∧ w = wr) (fun _ vi _ => n - (intOf vi).toNat)
  case atStart => exact ⟨0, false, Nat.zero_le _, rfl, rfl, HG, rfl⟩
  case round =>
    obtain ⟨k, r, hk, rfl, rfl, HR, rfl⟩ := hrel
    by_cases hlt : k < n
    · obtain ⟨x, rfl, hc⟩ := X.out k hlt
      have hkI : (k : Int) < (n : Int) := by omega
      have hp : lo + k < s.size := by omega
      obtain ⟨r', hr⟩ := HR.out
      have e : n - k = (n - (k + 1)) + 1 := by omega
      have e2 : lo + k + 1 = lo + (k + 1) := by omega
      rw [e, gapS, dif_pos hp, e2] at hr
      by_cases h10 : (s[lo + k]).toNat = 10
      · rw [if_pos h10] at hr
        have c10 : (((s[lo + k]).toNat : Int) == 10) = true := by simp [h10]
        have HR2 := hide (show ∃ r', gapS s (n - (k + 1)) (lo + (k + 1)) false = some r' from ⟨_, hr⟩)
        clear h10 hr e e2
        go_wp2_with fail
        go_roundw
        case rel => exact ⟨k + 1, false, by omega, by first | trivial | go_num, rfl, HR2, by first | rfl | trivial⟩
        case measure => simp [intOf]; omega
      rw [if_neg h10] at hr
      have c10 : (((s[lo + k]).toNat : Int) == 10) = false := by
        have : ¬ ((s[lo + k]).toNat : Int) = 10 := by omega
        simpa using this
      by_cases h35 : (s[lo + k]).toNat = 35
      · rw [if_pos h35] at hr
        have c35 : (((s[lo + k]).toNat : Int) == 35) = true := by simp [h35]
        have HR2 := hide (show ∃ r', gapS s (n - (k + 1)) (lo + (k + 1)) true = some r' from ⟨_, hr⟩)
        clear h10 h35 hr e e2
        go_wp2_with fail
        go_roundw
        case rel => exact ⟨k + 1, true, by omega, by first | trivial | go_num, rfl, HR2, by first | rfl | trivial⟩
        case measure => simp [intOf]; omega
      rw [if_neg h35] at hr
      have c35 : (((s[lo + k]).toNat : Int) == 35) = false := by
        have : ¬ ((s[lo + k]).toNat : Int) = 35 := by omega
        simpa using this
      split at hr
      · rename_i hb
        have HR2 := hide (show ∃ r', gapS s (n - (k + 1)) (lo + (k + 1)) r = some r' from ⟨_, hr⟩)
        have HB := hide hb
        clear h10 h35 hr e e2 hb
        cases r with
        | true =>
          go_wp2_with fail
          go_roundw
          case rel => exact ⟨k + 1, true, by omega, by first | trivial | go_num, rfl, HR2, by first | rfl | trivial⟩
          case measure => simp [intOf]; omega
        | false =>
          rcases (by simpa using HB.out : (s[lo + k]).toNat = 32 ∨ (s[lo + k]).toNat = 9 ∨ (s[lo + k]).toNat = 13) with h | h | h
          · have c1 : (((s[lo + k]).toNat : Int) == 32) = true := by simp [h]
            have d1 : (((s[lo + k]).toNat : Int) != 32) = false := by simp [h]
            clear h
            go_wp2_with fail
            go_roundw
            case rel => exact ⟨k + 1, false, by omega, by first | trivial | go_num, rfl, HR2, by first | rfl | trivial⟩
            case measure => simp [intOf]; omega
          · have c1 : (((s[lo + k]).toNat : Int) == 32) = false := by simp [h]
            have d1 : (((s[lo + k]).toNat : Int) != 32) = true := by simp [h]
            have c2 : (((s[lo + k]).toNat : Int) == 9) = true := by simp [h]
            have d2 : (((s[lo + k]).toNat : Int) != 9) = false := by simp [h]
            clear h
            go_wp2_with fail
            go_roundw
            case rel => exact ⟨k + 1, false, by omega, by first | trivial | go_num, rfl, HR2, by first | rfl | trivial⟩
            case measure => simp [intOf]; omega
          · have c1 : (((s[lo + k]).toNat : Int) == 32) = false := by simp [h]
            have d1 : (((s[lo + k]).toNat : Int) != 32) = true := by simp [h]
            have c2 : (((s[lo + k]).toNat : Int) == 9) = false := by simp [h]
            have d2 : (((s[lo + k]).toNat : Int) != 9) = true := by simp [h]
            have c3 : (((s[lo + k]).toNat : Int) == 13) = true := by simp [h]
            have d3 : (((s[lo + k]).toNat : Int) != 13) = false := by simp [h]
            clear h
            go_wp2_with fail
            go_roundw
            case rel => exact ⟨k + 1, false, by omega, by first | trivial | go_num, rfl, HR2, by first | rfl | trivial⟩
            case measure => simp [intOf]; omega
      · cases hr
    · have hkI : ¬ (k : Int) < (n : Int) := by omega
      go_wp2_with fail
      go_ret
      exact ⟨rfl, rfl⟩
end Go.Proofs.YtekdchhengcfoaaDoor
