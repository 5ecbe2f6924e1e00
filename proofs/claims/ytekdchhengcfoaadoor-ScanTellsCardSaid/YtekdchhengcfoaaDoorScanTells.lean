/- The walk of the statement ScanTells. -/
import Derived.Test.YtekdchhengcfoaaDoorRows
import Derived.Test.YtekdchhengcfoaaDoorScanU
namespace Go.Proofs.YtekdchhengcfoaaDoor.ScanTellsW
open Go.RowKit Go.Proofs.YtekdchhengcfoaaDoor
set_option linter.unusedVariables false
theorem own_empty5 (w : World) : (w.alloc (.cells #[] 5)).ownsRow w.heap.size 5 1 (.slice (some ⟨w.heap.size, 0, none⟩) 0 0) 0 [] := ⟨rfl, .inr ⟨_, 0, #[], rfl, Nat.le_refl _, heap_alloc_new w _, Nat.le_refl _, Nat.zero_le _, rfl, rfl⟩⟩
theorem u8_info : (Tryd.prog.info? 5).map (fun i => (i.zero, i.size, i.bytes)) = some (some (.int .u8 0), 1, 1) := by kernel_rfl
set_option maxRecDepth 100000 in
set_option maxHeartbeats 4000000 in
theorem walk (W : World) (hS : Sg W) (a0 : Option Addr) (len0 cap0 : Nat) (z0 : List Int) (w0 : IsRow .u8 W a0 len0 cap0 z0) :
    Calls Tryd.prog 3 #[.slice a0 len0 cap0] W fun e w' => e = .returned (.bool true) ∧ Below W.heap.size W w' := by
  obtain ⟨s, rfl, hT, hc1, hc2⟩ := text_arg w0
  have HS := hide hS
  have T := hide hT
  have C1 := hide hc1
  have C2 := hide hc2
  clear hS w0 hT hc1 hc2
  by_cases hb : (21000 : Int) < (s.size : Int)
  · go_enter Tryd.func3, Tryd.ntmps3
    go_wp2_with fail
    go_ret
    exact ⟨rfl, Below.refl _ _⟩
  have hsm : s.size ≤ 21000 := by omega
  have hlm : 0 + s.size ≤ maxLen := by unfold maxLen; omega
  obtain ⟨i0, hi0, hz0, hz1, hz2⟩ := info_parts u8_info
  obtain ⟨l, a, b, ev, hone⟩ := scanR_one s
  have ONE := hide hone
  have ee : (s.toList == s.toList) = true := by simp
  clear hone
  go_enter Tryd.func3, Tryd.ntmps3
  go_wp2_with (at_builtin; refine wpList_append_any _ rfl (.tmp 17) (.tmp 18) _ rfl W.heap.size 5 i0 _ 1 1 Tryd.underlying22 hi0 hz0 hz1 hz2 rfl (by omega) (.slice (some ⟨W.heap.size, 0, none⟩) 0 0) 0 [] rfl ?own W.heap.size a0 s.size cap0 (bytesOf s) rfl ?rds (bytesOf_one s) hlm (by omega) (by simp) ?_)
  case own => exact own_empty5 W
  case rds => exact T.out.reads.alloc (Nat.le_refl _) _
  intro v1 w1 hown1 hg1 hat1
  have hbw1 : Below W.heap.size W w1 := ((Below.refl _ _).alloc (Nat.le_refl _) _).grown hg1 (by simp) (by simp [Value.ownBlock])
  obtain ⟨A1, cap1, rfl, hT1⟩ := TextAt.own (s := s) (by simpa using hown1)
  have B1 := hide hbw1
  have T1 := hide hT1
  clear hown1 hg1 hat1 hbw1 hT1
  go_wp2_with fail
  refine (scan_b_any a0 cap0 s w1 C1.out C2.out (T.out.below B1.out)).mono ?_
  rintro e w2 ⟨hr, hb2⟩
  obtain ⟨A2, c2, rfl, hrow2, hll, _⟩ := ONE.out _ _ _ hr
  have B2 := hide (B1.out.trans (hb2.mono B1.out.size))
  have T2 := hide (T1.out.below hb2)
  have R2 := hide hrow2
  clear hr hb2 hrow2
  go_wp2_with fail
  go_loopw [8] (fun vt wr => ∃ t : Nat, t ≤ 2 ∧ vt = .int .i64 t ∧ Hid (Below w2.heap.size w2 wr)) (fun vt _ => 2 - (intOf vt).toNat)
  case atStart => exact ⟨0, by omega, rfl, hide (Below.refl _ _)⟩
  case round =>
    obtain ⟨t, ht, rfl, HBr⟩ := hrel
    by_cases hlt : t < 2
    · have hltI : (t : Int) < 2 := by omega
      go_wp2_with fail
      refine (scan_a A1 cap1 s wr (by omega) ((HS.out.below B2.out).below HBr.out) ((T2.out.below HBr.out).conv cap1)).mono ?_
      rintro e w3 ⟨hr, hb3⟩
      obtain ⟨A3, c3, rfl, hrow3, _, hge⟩ := ONE.out _ _ _ hr
      have HR := hide hr
      have GE := hide hge
      have B3 := hide hb3
      have HB3 := hide (HBr.out.trans (hb3.mono HBr.out.size))
      have R3 := hide hrow3
      clear hr hge hb3 hrow3
      go_wp2_with fail
      refine (same_yes A3 A2 c3 c2 l w3 R3.out (R2.out.below HB3.out) hll).mono ?_
      rintro e w4 ⟨rfl, hb4⟩
      have B4 := hide (B3.out.trans (hb4.mono B3.out.size))
      have HB4 := hide (HB3.out.trans (hb4.mono HB3.out.size))
      have BB4 := hide hb4
      have cv1 := (T2.out.below HB4.out).conv cap1
      have cv0 := ((T.out.below B2.out).below HB4.out).conv cap0
      clear hb4
      go_wp2_with fail
      have blk : Hid (∀ g, A3 = some ⟨g, 0, none⟩ → ∃ cur, Blk w4 g 31 cur ∧ l.length * 5 ≤ cur.size) := hide fun g hA => by
        subst hA
        obtain ⟨cur, h1, h2⟩ := scanR_blk HR.out
        exact ⟨cur, h1.below BB4.out h1.lt, h2⟩
      go_loopw [13] (fun vi wi => ∃ i : Nat, i ≤ l.length ∧ vi = .int .i64 i ∧ Hid (Below wr.heap.size wr wi) ∧ Hid (∀ g, A3 = some ⟨g, 0, none⟩ → ∃ cur, Blk wi g 31 cur ∧ l.length * 5 ≤ cur.size)) (fun vi _ => l.length - (intOf vi).toNat)
      case atStart => exact ⟨0, Nat.zero_le _, rfl, B4, blk⟩
      case round =>
        obtain ⟨i, hi, rfl, HBi, BK⟩ := hrel
        by_cases hlt2 : i < l.length
        · have hltI2 : (i : Int) < (l.length : Int) := by omega
          obtain ⟨g, rfl, hg, _⟩ := R3.out.2 (by omega)
          have hge := GE.out _ rfl (by omega)
          obtain ⟨cur, hblk, hcur⟩ := BK.out g rfl
          have hx : i * 5 < cur.size := by omega
          have hc0 := hblk.cell (i * 5)
          rw [Array.getElem?_eq_getElem hx] at hc0
          have hf0 := hblk.frozen (i * 5)
          have hcap := R3.out.1
          have HBLK := hide hblk
          have nb := hide (HBi.out.setCell (p := ⟨g, i * 5, none⟩) hge (.int .u8 77))
          have nk : Hid (∀ g', some (⟨g, 0, none⟩ : Addr) = some ⟨g', 0, none⟩ → ∃ cur, Blk (World.setCell _ ⟨g, i * 5, none⟩ (.int .u8 77)) g' 31 cur ∧ l.length * 5 ≤ cur.size) := hide fun g' hA => by
            cases hA
            exact ⟨_, hblk.set_ (i * 5) (.int .u8 77), by simpa using hcur⟩
          clear hblk
          go_wp2_with fail
          go_roundw
          case rel => exact ⟨i + 1, by omega, by first | trivial | go_num, nb, nk⟩
          case measure => simp [intOf]; omega
        · have hltI2 : ¬ (i : Int) < (l.length : Int) := by omega
          go_wp2_with fail
          go_roundw
          case rel => exact ⟨t + 1, by omega, by first | trivial | go_num, hide (HBr.out.trans (HBi.out.mono HBr.out.size))⟩
          case measure => simp [intOf]; omega
    · have hltI : ¬ (t : Int) < 2 := by omega
      go_wp2_with fail
      go_ret
      exact ⟨rfl, B2.out.trans (HBr.out.mono B2.out.size)⟩
end Go.Proofs.YtekdchhengcfoaaDoor.ScanTellsW
