/- The walk of the statement ScanPlaces. -/
import Derived.Test.YtekdchhengcfoaaDoorRows
import Derived.Test.YtekdchhengcfoaaDoorScanX
namespace Go.Proofs.YtekdchhengcfoaaDoor.ScanPlacesW
open Go.RowKit Go.Proofs.YtekdchhengcfoaaDoor
set_option linter.unusedVariables false
theorem lies_from {w : World} {x : Addr} {s : ByteArray} (h : Lies w x s) (lo n : Nat) (hn : lo + n ≤ s.size) : ∀ j (hj : j < n), ∃ y, some (x.add lo) = some y ∧ w.cell? (y.add j) = some (.int .u8 ((s[lo + j]'(by omega)).toNat : Int)) :=
  fun j hj => ⟨_, rfl, by rw [add_of_add]; exact h (lo + j) (by omega)⟩
set_option maxRecDepth 100000 in
set_option maxHeartbeats 4000000 in
theorem walk (W : World) (hS : Sg W) (a0 : Option Addr) (len0 cap0 : Nat) (z0 : List Int) (w0 : IsRow .u8 W a0 len0 cap0 z0) :
    Calls Tryd.prog 6 #[.slice a0 len0 cap0] W fun e w' => e = .returned (.bool true) ∧ Below W.heap.size W w' := by
  obtain ⟨s, rfl, hT, hc1, hc2⟩ := text_arg w0
  have HS := hide hS
  have T := hide hT
  have C1 := hide hc1
  have C2 := hide hc2
  clear hS w0 hT hc1 hc2
  by_cases hb : (2000 : Int) < (s.size : Int)
  · go_enter Tryd.func6, Tryd.ntmps6
    go_wp2_with fail
    refine (awake_c _ HS.out).mono ?_
    rintro e w2 ⟨rfl, hb2⟩
    have HB2 := hide hb2
    clear hb2
    go_wp2_with fail
    go_ret
    exact ⟨rfl, HB2.out⟩
  have hsm : s.size ≤ 2000 := by omega
  go_enter Tryd.func6, Tryd.ntmps6
  go_wp2_with fail
  refine (awake_c _ HS.out).mono ?_
  rintro e w2 ⟨rfl, hb2⟩
  have HB2 := hide hb2
  clear hb2
  go_wp2_with fail
  refine (scan_a a0 cap0 s w2 (by omega) (HS.out.below HB2.out) ((T.out.below HB2.out).conv cap0)).mono ?_
  rintro e w3 ⟨hr, hb3⟩
  have HB3 := hide (HB2.out.trans (hb3.mono HB2.out.size))
  have T3 := hide (T.out.below HB3.out)
  unfold ScanR at hr
  rw [if_neg (by omega)] at hr
  obtain ⟨l, er, hsc, hll, hr⟩ := hr
  obtain ⟨hp1, hp2⟩ := placed_scan hsc
  rcases er with _ | ⟨ln, cl⟩
  · obtain ⟨v, rfl, hown⟩ := hr
    obtain ⟨A, c, rfl, hA⟩ := own_any hown
    have HP := hide (hp1 rfl)
    clear hown hsc hp1 hp2 hb3
    go_wp2_with fail
    go_loopw [8, 9] (fun vl vi wr => ∃ (i last : Nat), i ≤ l.length ∧ vi = .int .i64 i ∧ vl = .int .i64 last ∧ Hid (Placed s last (l.drop i)) ∧ Hid (Below w3.heap.size w3 wr)) (fun _ vi _ => l.length - (intOf vi).toNat)
    case atStart => exact ⟨0, 0, Nat.zero_le _, rfl, rfl, HP, hide (Below.refl _ _)⟩
    case round =>
      obtain ⟨i, last, hi, rfl, rfl, HPi, HBr⟩ := hrel
      by_cases hlt : i < l.length
      · obtain ⟨g, rfl, hc, hgl, hcell⟩ := hA.out (by omega)
        obtain ⟨t0, t1, t2, t3, t4⟩ := toks_at l i hlt
        have far : ∀ j u, (toks l)[j]? = some u → wr.cell? ⟨g, j, none⟩ = some u := fun j u hj => (HBr.out.cell (p := ⟨g, j, none⟩) hgl).trans (hcell j u hj)
        have c1 := far _ _ t1
        have c3 := far _ _ t3
        have c4 := far _ _ t4
        have hpl := HPi.out
        rw [List.drop_eq_getElem_cons hlt] at hpl
        obtain ⟨p, h1, h2, h3, h4, h5, h6, h7⟩ := hpl
        have hgr : g < wr.heap.size := Nat.lt_of_lt_of_le hgl HBr.out.size
        have HC := hide hcell
        clear far hcell t0 t1 t2 t3 t4
        generalize l[i] = tk at *
        obtain ⟨k, sx, v, ln, cl⟩ := tk
        simp only at c1 c3 c4 h2 h3 h4 h5 h7
        obtain ⟨x, rfl, hx⟩ : ∃ x, a0 = some x ∧ Lies wr x s := by
          rcases T3.out.below HBr.out with ⟨_, h0⟩ | h
          · omega
          · exact h
        have TT := hide (show TextAt wr (some x) s from .inr ⟨x, rfl, hx⟩)
        have PL := hide h2
        have NE : Nonempty (BelowOf wr) := ⟨⟨wr, Below.refl _ _⟩⟩
        have q1 : ∀ p : BelowOf wr, p.world.cell? ⟨g, i * 5 + 1, none⟩ = some (.string sx) := fun p => p.cell hgr c1
        have q3 : ∀ p : BelowOf wr, p.world.cell? ⟨g, i * 5 + 3, none⟩ = some (.int .i64 ln) := fun p => p.cell hgr c3
        have q4 : ∀ p : BelowOf wr, p.world.cell? ⟨g, i * 5 + 4, none⟩ = some (.int .i64 cl) := fun p => p.cell hgr c4
        have ltI : (i : Int) < (l.length : Int) := by omega
        have HX := hide hx
        have G6 := hide h6
        have N7 := hide h7
        clear h2 h6 h7 hx
        go_wp2_with fail
        refine wp_region_quiet_below (by kernel_rfl) (by kernel_rfl) ?_
        repeat (go_big_quiet_step (first
          | (go_at_call 20; refine calls_below_same (offset_c (some x) cap0 s ln cl p _ _ p rfl rfl rfl _ (by omega) (TT.out.below (BelowOf.below _)) PL.out))))
        refine wpQuiet_nil ?_
        rintro Wq ⟨⟨_, hq⟩, rfl⟩
        have HQ := hide (HBr.out.trans (hq.mono HBr.out.size))
        have hgq : g < Wq.heap.size := Nat.lt_of_lt_of_le hgr hq.size
        have d1 := (hq.cell (p := ⟨g, i * 5 + 1, none⟩) hgr).trans c1
        have XQ := hide (HX.out.below hq)
        clear c1 c3 c4 q1 q3 q4 NE hq
        have NE : Nonempty (BelowOf Wq) := ⟨⟨Wq, Below.refl _ _⟩⟩
        have q1 : ∀ p : BelowOf Wq, p.world.cell? ⟨g, i * 5 + 1, none⟩ = some (.string sx) := fun p => p.cell hgq d1
        have f4 : (p : Int) ≤ (p : Int) + (sx.size : Int) := by omega
        have f5 : (p : Int) + (sx.size : Int) ≤ (cap0 : Int) := by have := C1.out; omega
        have f6 : (last : Int) ≤ (p : Int) := by omega
        have f7 : (p : Int) ≤ (cap0 : Int) := by have := C1.out; omega
        have kc := fun (C : Nat) (p' : BelowOf Wq) => conv_piece (XQ.out.below p'.below) p (p + sx.size) C (by omega) h4
        rw [← h5] at kc
        have kc2 := kc
        rw [Nat.add_sub_cancel_left] at kc2
        have ee : (sx.toList == sx.toList) = true := by simp
        clear h5
        go_wp2_with fail
        have GT := hide (fun (p' : BelowOf Wq) => lies_from (XQ.out.below p'.below) last (p - last) (by omega))
        have f1 : ¬ p < last := by omega
        have f2 : ¬ (sx.size : Int) < 1 := by omega
        have f3 : ¬ (s.size : Int) - (p : Int) < (sx.size : Int) := by omega
        refine wp_region_quiet_below (by kernel_rfl) (by kernel_rfl) ?_
        repeat (go_big_quiet_step (first
          | (go_at_call 21; refine calls_below_same (gap_c _ (p - last) _ last s _ (by omega) (by omega) (GT.out _) G6.out))))
        refine wpQuiet_nil ?_
        rintro Wz ⟨⟨_, hz⟩, rfl⟩
        have HZ := hide (HQ.out.trans (hz.mono HQ.out.size))
        have d2 := (hz.cell (p := ⟨g, i * 5 + 1, none⟩) hgq).trans d1
        have f8 : (p : Int) + (sx.size : Int) ≤ 9223372036854775807 := by omega
        clear hz
        go_wp2_with fail
        go_roundw
        case rel => exact ⟨i + 1, p + sx.size, by omega, by go_num, by go_num, N7, HZ⟩
        case measure => simp [intOf]; omega
      · obtain rfl : i = l.length := by omega
        have ltI : ¬ (l.length : Int) < (l.length : Int) := by omega
        have hpl := HPi.out
        rw [List.drop_length] at hpl
        obtain ⟨hl1, hg1⟩ := hpl
        have GG := hide hg1
        have f6 : (last : Int) ≤ (s.size : Int) := by omega
        have f7 : (s.size : Int) ≤ (cap0 : Int) := by have := C1.out; omega
        clear hg1
        rcases T3.out.below HBr.out with ⟨rfl, h0⟩ | ⟨x, rfl, hx⟩
        · obtain rfl : last = 0 := by omega
          rw [h0] at GG ⊢
          go_wp2_with fail
          refine (gap_c none 0 cap0 0 s _ (by omega) (by omega) (fun j hj => absurd hj (Nat.not_lt_zero j)) GG.out).mono ?_
          rintro e w' ⟨rfl, rfl⟩
          go_wp2_with fail
          go_ret
          exact ⟨rfl, HB3.out.trans (HBr.out.mono HB3.out.size)⟩
        · have GT := hide (lies_from hx last (s.size - last) (by omega))
          clear hx
          go_wp2_with fail
          · rename_i hcl
            have e0 : s.size - last = 0 := by have := C1.out; omega
            refine (gap_c (some x) (s.size - last) _ last s _ (by omega) (by omega) (fun j hj => absurd hj (by omega)) GG.out).mono ?_
            rintro e w' ⟨rfl, rfl⟩
            go_wp2_with fail
            go_ret
            exact ⟨rfl, HB3.out.trans (HBr.out.mono HB3.out.size)⟩
          · refine (gap_c (some (x.add last)) (s.size - last) _ last s _ (by omega) (by omega) GT.out GG.out).mono ?_
            rintro e w' ⟨rfl, rfl⟩
            go_wp2_with fail
            go_ret
            exact ⟨rfl, HB3.out.trans (HBr.out.mono HB3.out.size)⟩
  · clear hp1
    obtain ⟨p, h1, h2⟩ := hp2 _ _ rfl
    obtain rfl := hr
    have PL := hide h2
    have hb3' := hide hb3
    clear hp2 hsc hb3 h2
    go_wp2_with fail
    refine (offset_c a0 cap0 s ln cl p _ _ p rfl rfl rfl w3 (by omega) T3.out PL.out).mono ?_
    rintro e w4 ⟨rfl, rfl⟩
    have h1I : (p : Int) < (s.size : Int) := by omega
    go_wp2_with fail
    go_ret
    exact ⟨rfl, HB3.out⟩
end Go.Proofs.YtekdchhengcfoaaDoor.ScanPlacesW
