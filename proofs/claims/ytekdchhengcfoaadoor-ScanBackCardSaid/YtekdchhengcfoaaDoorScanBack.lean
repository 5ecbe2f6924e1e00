/- The walk of the statement ScanBack. -/
import Derived.Test.YtekdchhengcfoaaDoorRows
import Derived.Test.YtekdchhengcfoaaDoorScanY
namespace Go.Proofs.YtekdchhengcfoaaDoor.ScanBackW
open Go.RowKit Go.Proofs.YtekdchhengcfoaaDoor
set_option linter.unusedVariables false
theorem layAt_bd (l : List Tok) (B : Nat) (h : ∀ t ∈ l, t.s.size ≤ B) : ∀ k, layAt l k ≤ k * (B + 1)
  | 0 => Nat.zero_le _
  | k + 1 => by
    have ih := layAt_bd l B h k
    have e : (k + 1) * (B + 1) = k * (B + 1) + (B + 1) := by rw [Nat.add_mul, Nat.one_mul]
    rw [layAt, e]
    cases hk : l[k]? with
    | none => simp only; omega
    | some t =>
      have := h t (List.mem_of_getElem? hk)
      simp only
      omega
theorem layAt_next (l : List Tok) (k : Nat) (h : k < l.length) : layAt l (k + 1) = layAt l k + l[k].s.size + 1 := by
  rw [layAt, List.getElem?_eq_getElem h]
theorem own_row {w : World} {B : Nat} {v : Value} {l : List Tok} (h : w.ownsRow B 31 5 v l.length (toks l)) : ∃ A c, v = .slice A l.length c ∧ Row w A c l := by
  rcases Nat.eq_zero_or_pos l.length with h0 | h0
  · rcases h.2 with ⟨hv, _⟩ | ⟨g, cap, cur, hv, _, _, hc, _⟩
    · exact ⟨none, 0, by rw [hv, h0], by omega, fun h => by omega⟩
    · exact ⟨_, _, hv, hc, fun h => by omega⟩
  · obtain ⟨g, cap, hv, h1, _, h3, h4⟩ := own_slice h h0
    exact ⟨_, _, hv, h1, fun _ => ⟨g, rfl, h3, h4⟩⟩
set_option maxRecDepth 100000 in
set_option maxHeartbeats 4000000 in
theorem walk (W : World) (hS : Sg W) (a0 : Option Addr) (len0 cap0 : Nat) (z0 : List Int) (w0 : IsRow .u8 W a0 len0 cap0 z0) :
    Calls Tryd.prog 5 #[.slice a0 len0 cap0] W fun e w' => e = .returned (.bool true) ∧ Below W.heap.size W w' := by
  obtain ⟨s, rfl, hT, hc1, hc2⟩ := text_arg w0
  have HS := hide hS
  have T := hide hT
  have C1 := hide hc1
  have C2 := hide hc2
  clear hS w0 hT hc1 hc2
  by_cases hb : (8000 : Int) < (s.size : Int)
  · go_enter Tryd.func5, Tryd.ntmps5
    go_wp2_with fail
    refine (awake_c _ HS.out).mono ?_
    rintro e w2 ⟨rfl, hb2⟩
    have HB2 := hide hb2
    clear hb2
    go_wp2_with fail
    go_ret
    exact ⟨rfl, HB2.out⟩
  have hsm : s.size ≤ 8000 := by omega
  go_enter Tryd.func5, Tryd.ntmps5
  go_wp2_with fail
  refine (awake_c _ HS.out).mono ?_
  rintro e w2 ⟨rfl, hb2⟩
  have HB2 := hide hb2
  clear hb2
  go_wp2_with fail
  refine (scan_a a0 cap0 s w2 (by omega) (HS.out.below HB2.out) ((T.out.below HB2.out).conv cap0)).mono ?_
  rintro e w3 ⟨hr, hb3⟩
  have HB3 := hide (HB2.out.trans (hb3.mono HB2.out.size))
  unfold ScanR at hr
  rw [if_neg (by omega)] at hr
  obtain ⟨l, er, hsc, hll, hr⟩ := hr
  clear hb3
  rcases er with _ | ⟨ln, cl⟩
  · obtain ⟨v, rfl, hown⟩ := hr
    obtain ⟨A, c, rfl, hrow⟩ := own_row hown
    obtain ⟨hs1, hs2⟩ := placed_sum l 0 ((placed_scan hsc).1 rfl)
    have hjl := jn_len l
    have hj1 : (jn l).length ≤ 16000 := by omega
    have hj2 : ¬ 9223372036854775807 < (bytes (jn l)).size := by rw [bytes_size]; omega
    have WT := hide (sc_words hsc)
    have TB := hide (fun t ht => (sc_ok hsc t ht).2)
    have R := hide hrow
    clear hown hrow hs1 hs2 hjl hsc
    go_wp2_with fail
    refine (text_r A c l w3 R.out (by omega) (by omega)).mono ?_
    rintro e w4 ⟨rfl, hb4⟩
    have HB4 := hide (HB3.out.trans (hb4.mono HB3.out.size))
    have R4 := hide (R.out.below hb4)
    have Bn := hide (fun (o : Obj) => (below_drewN (Below.refl w4.heap.size w4) 1).alloc (Nat.le_refl _) o)
    have S20 : Hid ((bytes (jn l)).size ≤ 20000) := hide (by rw [bytes_size]; omega)
    have SJ := hide (sc_jn l WT.out)
    generalize bytes (jn l) = S at *
    have kb := fun (W : World) => run_bytes_of_string (P := Tryd.prog) W 9 22 5 S Tryd.underlying9 Tryd.underlying22 Tryd.underlying5
    clear hb4
    go_wp2_with fail
    refine (scan_ok _ _ S _ S20.out ((HS.out.below HB4.out).below (Bn.out _)) (conv_new w4.drew S _ _) SJ.out).mono ?_
    rintro e w5 ⟨⟨v, rfl, hown⟩, hb5⟩
    obtain ⟨A5, c5, rfl, hrow5⟩ := own_row hown
    have B45 := hide ((Bn.out _).trans (hb5.mono (Nat.le_of_lt (by simp))))
    have HB5 := hide (HB4.out.trans (B45.out.mono HB4.out.size))
    have R5 := hide (R4.out.below B45.out)
    have M5 := hide hrow5
    have HLE := hide (lay_len l 0)
    have AL := hide (lay_alike l 0)
    have LP := hide (lay_place l 0)
    clear hown hb5 hrow5
    generalize lay l 0 = m at *
    go_wp2_with fail
    refine (same_al A A5 c c5 l m w5 R5.out M5.out (by omega) AL.out).mono ?_
    rintro e w6 ⟨rfl, hb6⟩
    have HB6 := hide (HB5.out.trans (hb6.mono HB5.out.size))
    have M6 := hide (M5.out.below hb6)
    clear hb6
    go_wp2_with fail
    go_loop [11, 12] (fun va vi => ∃ i : Nat, i ≤ l.length ∧ vi = .int .i64 i ∧ va = .int .i64 ((layAt l i : Int) + 1)) (fun _ vi => l.length - (intOf vi).toNat)
    case atStart => exact ⟨0, Nat.zero_le _, rfl, rfl⟩
    case round =>
      obtain ⟨i, hi, rfl, rfl⟩ := hrel
      have hle := HLE.out
      by_cases hlt : i < l.length
      · have hlm : i < m.length := by omega
        obtain ⟨hc, hA⟩ := M6.out
        obtain ⟨g, rfl, hg, hcell⟩ := hA (by omega)
        obtain ⟨t0, t1, t2, t3, t4⟩ := toks_at m i hlm
        have c1 := hcell _ _ t1
        have c3 := hcell _ _ t3
        have c4 := hcell _ _ t4
        obtain ⟨p1, p2⟩ := LP.out i hlm
        rw [p1] at c3
        rw [p2] at c4
        rw [← (AL.out.2 i hlt hlm).2.1] at c1
        have hnx := layAt_next l i hlt
        have hbd := layAt_bd l 8000 (fun t ht => Nat.le_trans (TB.out t ht) hsm) i
        have hbd2 : i * (8000 + 1) ≤ 8000 * 8001 := Nat.mul_le_mul (by omega) (by omega)
        have hsz : l[i].s.size ≤ 8000 := Nat.le_trans (TB.out _ (List.getElem_mem hlt)) hsm
        have hbd3 : layAt l i ≤ 64008000 := by omega
        have e4 : ((0 + layAt l i + 1 : Nat) : Int) = (layAt l i : Int) + 1 := by omega
        rw [e4] at c4
        have ltI : (i : Int) < (m.length : Int) := by omega
        clear hle
        have NX := hide hnx
        clear t0 t1 t2 t3 t4 hA hcell p1 p2 hnx hbd hbd2 e4
        generalize l[i] = tk at *
        go_wp2_with fail
        go_round
        case rel => exact ⟨i + 1, by omega, by go_num, by rw [NX.out]; go_num⟩
        case measure => simp [intOf]; omega
      · have ltI : ¬ (i : Int) < (m.length : Int) := by omega
        clear hle
        go_wp2_with fail
        go_ret
        exact ⟨rfl, HB6.out⟩
  · obtain rfl := hr
    clear hsc
    go_wp2_with fail
    go_ret
    exact ⟨rfl, HB3.out⟩
end Go.Proofs.YtekdchhengcfoaaDoor.ScanBackW
