/- The reference's words: where what begins at a place ends. -/
import Derived.Test.YtekdchhengcfoaaDoorRows
import Derived.Test.YtekdchhengcfoaaDoorScanN
namespace Go.Proofs.YtekdchhengcfoaaDoor
open Go.RowKit
set_option linter.unusedVariables false
set_option linter.unusedSimpArgs false
/-- The text's bytes lie from x on. -/
def Lies (w : World) (x : Addr) (s : ByteArray) : Prop := ∀ j (h : j < s.size), w.cell? (x.add j) = some (.int .u8 ((s[j]).toNat : Int))
theorem Lies.below {w w' : World} {x : Addr} {s : ByteArray} (h : Lies w x s) (hb : Below w.heap.size w w') : Lies w' x s := fun j hj => (hb.cell (block_lt_of_cell (h j hj))).trans (h j hj)
theorem run_let {s : ByteArray} {k : Nat} (h : k < s.size) : runFrom isLod s k = if isLet (s[k]).toNat || isDig (s[k]).toNat then runFrom isLod s (k + 1) else k := by
  by_cases hc : isLod (s[k]).toNat = true
  · have h128 : (s[k]).toNat < 128 := by
      simp [isLod, isLet, isDig] at hc
      omega
    rw [runFrom_go h ⟨h128, hc⟩]
    have : (isLet (s[k]).toNat || isDig (s[k]).toNat) = true := hc
    rw [if_pos this]
  · rw [runFrom_stop h (fun hh => hc hh.2)]
    have : ¬ (isLet (s[k]).toNat || isDig (s[k]).toNat) = true := hc
    rw [if_neg this]
theorem run_dig {s : ByteArray} {k : Nat} (h : k < s.size) : runFrom isDig s k = if isDig (s[k]).toNat then runFrom isDig s (k + 1) else k := by
  by_cases hc : isDig (s[k]).toNat = true
  · have h128 : (s[k]).toNat < 128 := by
      simp [isDig] at hc
      omega
    rw [runFrom_go h ⟨h128, hc⟩, if_pos hc]
  · rw [runFrom_stop h (fun hh => hc hh.2), if_neg hc]
set_option maxRecDepth 100000 in
set_option maxHeartbeats 2000000 in
theorem end_let (x : Addr) (cap : Nat) (s : ByteArray) (pos : Nat) (w : World) (hs : s.size ≤ 20000) (hp : pos < s.size) (hx : Lies w x s) (hd : isLet (s[pos]).toNat = true) :
    Calls Tryd.prog 22 #[.slice (some x) s.size cap, .int .i64 pos] w fun e w' => e = .returned (.int .i64 (runFrom isLod s pos)) ∧ w = w' := by
  have hc0 := hx pos hp
  have X := hide hx
  have hpI : (pos : Int) < (s.size : Int) := by omega
  have R0 := hide (show runFrom isLod s (pos + 1) = runFrom isLod s pos by rw [run_let hp, hd]; rfl)
  clear hx
  go_enter Tryd.func22, Tryd.ntmps22
  go_wp2_with fail
  refine (let_b _ _).mono ?_
  rw [hd]
  rintro e w' ⟨rfl, rfl⟩
  go_wp2_with fail
  go_loopw [5] (fun v wr => ∃ k : Nat, k ≤ s.size ∧ v = .int .i64 k ∧ Hid (runFrom isLod s k = runFrom isLod s pos) ∧ w = wr) (fun v _ => s.size - (intOf v).toNat)
  case atStart => exact ⟨pos + 1, by omega, by go_num, R0, rfl⟩
  case round =>
    obtain ⟨k, hk, rfl, RK, rfl⟩ := hrel
    by_cases hlt : k < s.size
    · have hck := X.out k hlt
      have hkI : (k : Int) < (s.size : Int) := by omega
      have RS := hide (run_let hlt)
      rcases h1 : isLet (s[k]).toNat with _ | _
      · rcases h2 : isDig (s[k]).toNat with _ | _
        · have R1 := hide (show runFrom isLod s pos = k by rw [← RK.out, RS.out, h1, h2]; rfl)
          go_wp2_with fail
          refine (let_b _ _).mono ?_
          rw [h1]
          rintro e w' ⟨rfl, rfl⟩
          go_wp2_with fail
          refine (dig_b _ _).mono ?_
          rw [h2]
          rintro e w' ⟨rfl, rfl⟩
          go_wp2_with fail
          go_ret
          exact ⟨by rw [R1.out]; rfl, rfl⟩
        · have R1 := hide (show runFrom isLod s (k + 1) = runFrom isLod s pos by rw [← RK.out, RS.out, h1, h2]; rfl)
          go_wp2_with fail
          refine (let_b _ _).mono ?_
          rw [h1]
          rintro e w' ⟨rfl, rfl⟩
          go_wp2_with fail
          refine (dig_b _ _).mono ?_
          rw [h2]
          rintro e w' ⟨rfl, rfl⟩
          go_wp2_with fail
          go_roundw
          case rel => exact ⟨k + 1, by omega, by first | trivial | go_num, R1, by first | rfl | trivial⟩
          case measure => simp [intOf]; omega
      · have R1 := hide (show runFrom isLod s (k + 1) = runFrom isLod s pos by rw [← RK.out, RS.out, h1]; rfl)
        go_wp2_with fail
        refine (let_b _ _).mono ?_
        rw [h1]
        rintro e w' ⟨rfl, rfl⟩
        go_wp2_with fail
        go_roundw
        case rel => exact ⟨k + 1, by omega, by first | trivial | go_num, R1, by first | rfl | trivial⟩
        case measure => simp [intOf]; omega
    · have R1 := hide (show runFrom isLod s pos = k by rw [← RK.out, runFrom_end hlt])
      have hkI : ¬ (k : Int) < (s.size : Int) := by omega
      go_wp2_with fail
      go_ret
      exact ⟨by rw [R1.out]; rfl, rfl⟩
set_option maxRecDepth 100000 in
set_option maxHeartbeats 2000000 in
theorem end_dig (x : Addr) (cap : Nat) (s : ByteArray) (pos : Nat) (w : World) (hs : s.size ≤ 20000) (hp : pos < s.size) (hx : Lies w x s) (hl : isLet (s[pos]).toNat = false) (hd : isDig (s[pos]).toNat = true) :
    Calls Tryd.prog 22 #[.slice (some x) s.size cap, .int .i64 pos] w fun e w' => e = .returned (.int .i64 (runFrom isDig s pos)) ∧ w = w' := by
  have hc0 := hx pos hp
  have X := hide hx
  have hpI : (pos : Int) < (s.size : Int) := by omega
  have R0 := hide (show runFrom isDig s (pos + 1) = runFrom isDig s pos by rw [run_dig hp, hd]; rfl)
  clear hx
  go_enter Tryd.func22, Tryd.ntmps22
  go_wp2_with fail
  refine (let_b _ _).mono ?_
  rw [hl]
  rintro e w' ⟨rfl, rfl⟩
  go_wp2_with fail
  refine (dig_b _ _).mono ?_
  rw [hd]
  rintro e w' ⟨rfl, rfl⟩
  go_wp2_with fail
  go_loopw [5] (fun v wr => ∃ k : Nat, k ≤ s.size ∧ v = .int .i64 k ∧ Hid (runFrom isDig s k = runFrom isDig s pos) ∧ w = wr) (fun v _ => s.size - (intOf v).toNat)
  case atStart => exact ⟨pos + 1, by omega, by go_num, R0, rfl⟩
  case round =>
    obtain ⟨k, hk, rfl, RK, rfl⟩ := hrel
    by_cases hlt : k < s.size
    · have hck := X.out k hlt
      have hkI : (k : Int) < (s.size : Int) := by omega
      have RS := hide (run_dig hlt)
      rcases h2 : isDig (s[k]).toNat with _ | _
      · have R1 := hide (show runFrom isDig s pos = k by rw [← RK.out, RS.out, h2]; rfl)
        go_wp2_with fail
        refine (dig_b _ _).mono ?_
        rw [h2]
        rintro e w' ⟨rfl, rfl⟩
        go_wp2_with fail
        go_ret
        exact ⟨by rw [R1.out]; rfl, rfl⟩
      · have R1 := hide (show runFrom isDig s (k + 1) = runFrom isDig s pos by rw [← RK.out, RS.out, h2]; rfl)
        go_wp2_with fail
        refine (dig_b _ _).mono ?_
        rw [h2]
        rintro e w' ⟨rfl, rfl⟩
        go_wp2_with fail
        go_roundw
        case rel => exact ⟨k + 1, by omega, by first | trivial | go_num, R1, by first | rfl | trivial⟩
        case measure => simp [intOf]; omega
    · have R1 := hide (show runFrom isDig s pos = k by rw [← RK.out, runFrom_end hlt])
      have hkI : ¬ (k : Int) < (s.size : Int) := by omega
      go_wp2_with fail
      go_ret
      exact ⟨by rw [R1.out]; rfl, rfl⟩
theorem conv_piece {w : World} {x : Addr} {s : ByteArray} (h : Lies w x s) (a b C : Nat) (hab : a ≤ b) (hb : b ≤ s.size) : (convert 22 9 (.slice (some (x.add a)) (b - a) C)).run Tryd.prog w = .ok (.string (s.extract a b)) w := by
  have hsz : (s.extract a b).size = b - a := by rw [ByteArray.size_extract]; omega
  have := conv_at w (s.extract a b) (x.add a) C fun j hj => by
    have hj' : j < (s.extract a b).size := hj
    rw [add_of_add, h (a + j) (by omega)]
    have e : (s.extract a b).data.toList[j] = (s.extract a b)[j]'hj' := rfl
    rw [e, ByteArray.getElem_extract]
  rwa [hsz] at this
set_option maxRecDepth 100000 in
set_option maxHeartbeats 2000000 in
theorem end_one (x : Addr) (cap : Nat) (s : ByteArray) (pos : Nat) (w : World) (hs : s.size ≤ 20000) (hcap : s.size ≤ cap) (hp : pos < s.size) (hx : Lies w x s) (hl : isLet (s[pos]).toNat = false) (hd : isDig (s[pos]).toNat = false) :
    Calls Tryd.prog 22 #[.slice (some x) s.size cap, .int .i64 pos] w fun e w' => e = .returned (.int .i64 ((if pos + 1 < s.size ∧ signB (s.extract pos (pos + 2)).toList = true then pos + 2 else pos + 1 : Nat) : Int)) ∧ w = w' := by
  have hc0 := hx pos hp
  have hpI : (pos : Int) < (s.size : Int) := by omega
  by_cases h1 : pos + 1 < s.size
  · have h1I : (pos : Int) + 1 < (s.size : Int) := by omega
    have h2I : (pos : Int) + 1 + 1 ≤ (cap : Int) := by omega
    have kc := fun C => conv_piece hx pos (pos + 1 + 1) C (by omega) (by omega)
    have X := hide hx
    clear hx
    rcases hB : signB (s.extract pos (pos + 1 + 1)).toList with _ | _
    · have E1 : (if pos + 1 < s.size ∧ false = true then pos + 2 else pos + 1 : Nat) = pos + 1 := by simp [h1]
      rw [E1]
      clear E1
      go_enter Tryd.func22, Tryd.ntmps22
      go_wp2_with fail
      refine (let_b _ _).mono ?_
      rw [hl]
      rintro e w' ⟨rfl, rfl⟩
      go_wp2_with fail
      refine (dig_b _ _).mono ?_
      rw [hd]
      rintro e w' ⟨rfl, rfl⟩
      go_wp2_with fail
      refine (sign_b _ _).mono ?_
      rw [hB]
      rintro e w' ⟨rfl, rfl⟩
      go_wp2_with fail
      go_ret
      exact ⟨rfl, rfl⟩
    · have E1 : (if pos + 1 < s.size ∧ true = true then pos + 2 else pos + 1 : Nat) = pos + 1 + 1 := by simp [h1]
      rw [E1]
      clear E1
      go_enter Tryd.func22, Tryd.ntmps22
      go_wp2_with fail
      refine (let_b _ _).mono ?_
      rw [hl]
      rintro e w' ⟨rfl, rfl⟩
      go_wp2_with fail
      refine (dig_b _ _).mono ?_
      rw [hd]
      rintro e w' ⟨rfl, rfl⟩
      go_wp2_with fail
      refine (sign_b _ _).mono ?_
      rw [hB]
      rintro e w' ⟨rfl, rfl⟩
      go_wp2_with fail
      go_ret
      exact ⟨rfl, rfl⟩
  · have h1I : ¬ (pos : Int) + 1 < (s.size : Int) := by omega
    clear hx
    go_enter Tryd.func22, Tryd.ntmps22
    go_wp2_with fail
    refine (let_b _ _).mono ?_
    rw [hl]
    rintro e w' ⟨rfl, rfl⟩
    go_wp2_with fail
    refine (dig_b _ _).mono ?_
    rw [hd]
    rintro e w' ⟨rfl, rfl⟩
    go_wp2_with fail
    go_ret
    exact ⟨rfl, rfl⟩
end Go.Proofs.YtekdchhengcfoaaDoor
