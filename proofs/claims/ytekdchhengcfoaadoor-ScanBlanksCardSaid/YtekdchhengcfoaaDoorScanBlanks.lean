/- The walk of the statement ScanBlanks. -/
import Derived.Test.YtekdchhengcfoaaDoorRows
import Derived.Test.YtekdchhengcfoaaDoorScanZ
namespace Go.Proofs.YtekdchhengcfoaaDoor.ScanBlanksW
open Go.RowKit Go.Proofs.YtekdchhengcfoaaDoor
set_option linter.unusedVariables false
theorem own_empty5 (w : World) : (w.alloc (.cells #[] 5)).ownsRow w.heap.size 5 1 (.slice (some ⟨w.heap.size, 0, none⟩) 0 0) 0 [] := ⟨rfl, .inr ⟨_, 0, #[], rfl, Nat.le_refl _, heap_alloc_new w _, Nat.le_refl _, Nat.zero_le _, rfl, rfl⟩⟩
theorem u8_info : (Tryd.prog.info? 5).map (fun i => (i.zero, i.size, i.bytes)) = some (some (.int .u8 0), 1, 1) := by kernel_rfl
theorem own_row {w : World} {B : Nat} {v : Value} {l : List Tok} (h : w.ownsRow B 31 5 v l.length (toks l)) : ∃ A c, v = .slice A l.length c ∧ Row w A c l := by
  rcases Nat.eq_zero_or_pos l.length with h0 | h0
  · rcases h.2 with ⟨hv, _⟩ | ⟨g, cap, cur, hv, _, _, hc, _⟩
    · exact ⟨none, 0, by rw [hv, h0], by omega, fun h => by omega⟩
    · exact ⟨_, _, hv, hc, fun h => by omega⟩
  · obtain ⟨g, cap, hv, h1, _, h3, h4⟩ := own_slice h h0
    exact ⟨_, _, hv, h1, fun _ => ⟨g, rfl, h3, h4⟩⟩
def sepV : Array Value := #[.string ⟨#[32]⟩, .string ⟨#[10]⟩, .string ⟨#[9, 32, 13]⟩, .string ⟨#[32, 35, 32, 97, 32, 49, 32, 36, 32, 38, 10]⟩, .string ⟨#[10, 10, 35, 10]⟩, .string ⟨#[32, 32]⟩]
theorem sepV_at : ∀ k, k < 6 → sepV[k]? = some (.string (bytes (sepL k)))
  | 0, _ | 1, _ | 2, _ | 3, _ | 4, _ | 5, _ => rfl
  | _ + 6, h => by omega
def Ks (s1 : ByteArray) (i : Nat) : Nat := if h : i < s1.size then (s1[i]).toNat % 6 else 0
theorem Ks_lt (s1 : ByteArray) (i : Nat) : Ks s1 i < 6 := by unfold Ks; split <;> omega
theorem ws_cut (K : Nat → Nat) {l : List Tok} {k : Nat} (hk : k < l.length) : ws K (l.drop k) k = l[k].s.data.toList ++ (sepL (K k) ++ ws K (l.drop (k + 1)) (k + 1)) := by
  rw [List.drop_eq_getElem_cons hk, ws]
theorem ws_len (K : Nat → Nat) : ∀ (l : List Tok) (i : Nat), (ws K l i).length ≤ (l.map fun t => t.s.size).sum + l.length * 11
  | [], _ => Nat.le_refl _
  | t :: l, i => by
    have hl : t.s.data.toList.length = t.s.size := rfl
    have ih := ws_len K l (i + 1)
    have h1 := sep_len (K i)
    have e : (t :: l).length * 11 = l.length * 11 + 11 := by simp [Nat.add_mul]
    rw [e]
    simp only [ws, List.length_append, hl, List.map_cons, List.sum_cons]
    omega
theorem bytes_cat (x : List UInt8) (s : ByteArray) (y : List UInt8) : bytes x ++ s ++ bytes y = bytes (x ++ s.data.toList ++ y) := by
  apply ByteArray.ext; simp [bytes]
theorem inv_len {K : Nat → Nat} {l : List Tok} {i : Nat} {C : ByteArray} (h : ∃ cur, C = bytes cur ∧ cur ++ ws K (l.drop i) i = ws K l 0) : C.size ≤ (ws K l 0).length := by
  obtain ⟨cur, rfl, h⟩ := h
  rw [bytes_size, ← h, List.length_append]
  omega
theorem inv_step {K : Nat → Nat} {l : List Tok} {i : Nat} {C : ByteArray} (hk : i < l.length) (h : ∃ cur, C = bytes cur ∧ cur ++ ws K (l.drop i) i = ws K l 0) : ∃ cur, C ++ l[i].s ++ bytes (sepL (K i)) = bytes cur ∧ cur ++ ws K (l.drop (i + 1)) (i + 1) = ws K l 0 := by
  obtain ⟨cur, rfl, h⟩ := h
  rw [ws_cut K hk] at h
  refine ⟨cur ++ l[i].s.data.toList ++ sepL (K i), bytes_cat _ _ _, ?_⟩
  rw [← h]
  simp
theorem long_bytes (s s2 : ByteArray) : bytesOf s ++ [.int .u8 10] ++ bytesOf s2 = bytesOf (bytes (s.data.toList ++ 10 :: s2.data.toList)) := by
  simp [bytesOf, bytes]
theorem long_size (s s2 : ByteArray) : (bytes (s.data.toList ++ 10 :: s2.data.toList)).size = s.size + 1 + s2.size := by
  rw [bytes_size]
  have e1 : s.data.toList.length = s.size := rfl
  have e2 : s2.data.toList.length = s2.size := rfl
  simp only [List.length_append, List.length_cons]
  omega
theorem long_ext {s s2 : ByteArray} {l : List Tok} (h : Sc s 0 1 1 l none) : ∃ l2 e2, Sc (bytes (s.data.toList ++ 10 :: s2.data.toList)) 0 1 1 (l ++ l2) e2 ∧ ∀ a b, e2 = some (a, b) → 1 < a := by
  have e1 : s.data.toList.length = s.size := rfl
  have hs := long_size s s2
  refine sc_ext (s := s) (by omega) (fun j hj => ?_) ?_ h (Nat.zero_le _) rfl
  · rw [bytes_get, List.getElem_append_left (by omega)]; rfl
  · rw [bytes_get, List.getElem_append_right (by omega)]; simp [e1]
theorem row_pre {w : World} {A : Option Addr} {c : Nat} {l l2 : List Tok} (h : Row w A c (l ++ l2)) : Row w A c l := by
  refine ⟨by have := h.1; rw [List.length_append] at this; omega, fun h0 => ?_⟩
  obtain ⟨g, rfl, h1, h2⟩ := h.2 (by rw [List.length_append]; omega)
  refine ⟨g, rfl, h1, fun j u hj => h2 j u ?_⟩
  have e : toks (l ++ l2) = toks l ++ toks l2 := by simp [toks]
  rw [e, List.getElem?_append_left (by
    rcases Nat.lt_or_ge j (toks l).length with h5 | h5
    · exact h5
    · rw [List.getElem?_eq_none h5] at hj; cases hj)]
  exact hj
theorem ks_rem (s1 : ByteArray) (i : Nat) (h : i < s1.size) : Int.tmod (wrap64 ((s1[i]).toNat : Int)) 6 = ((Ks s1 i : Nat) : Int) := by
  unfold Ks
  rw [dif_pos h]
  have h2 := (s1[i]).toNat_lt
  have e : wrap64 ((s1[i]).toNat : Int) = ((s1[i]).toNat : Int) := by unfold wrap64; omega
  rw [e]
  rfl
set_option maxRecDepth 100000 in
set_option maxHeartbeats 4000000 in
theorem walk (W : World) (hS : Sg W) (a0 : Option Addr) (len0 cap0 : Nat) (z0 : List Int) (w0 : IsRow .u8 W a0 len0 cap0 z0) (a1 : Option Addr) (len1 cap1 : Nat) (z1 : List Int) (w1 : IsRow .u8 W a1 len1 cap1 z1) (a2 : Option Addr) (len2 cap2 : Nat) (z2 : List Int) (w2 : IsRow .u8 W a2 len2 cap2 z2) :
    Calls Tryd.prog 7 #[.slice a0 len0 cap0, .slice a1 len1 cap1, .slice a2 len2 cap2] W fun e w' => e = .returned (.bool true) ∧ Below W.heap.size W w' := by
  obtain ⟨s, rfl, hT, hc1, hc2⟩ := text_arg w0
  obtain ⟨s1, rfl, hT1, hd1, hd2⟩ := text_arg w1
  obtain ⟨s2, rfl, hT2, he1, he2⟩ := text_arg w2
  have HS := hide hS
  have T := hide hT
  have T1 := hide hT1
  have T2 := hide hT2
  clear hS w0 w1 w2 hT hT1 hT2 hc1 hc2 he1 he2
  have D2 := hide (show s1.size ≤ maxLen by omega)
  clear hd1 hd2
  by_cases hb : (4000 : Int) < (s.size : Int)
  · go_enter Tryd.func7, Tryd.ntmps7
    go_wp2_with fail
    refine (awake_c _ HS.out).mono ?_
    rintro e w2 ⟨rfl, hb2⟩
    have HB2 := hide hb2
    clear hb2
    go_wp2_with fail
    go_ret
    exact ⟨rfl, HB2.out⟩
  by_cases hb' : (1000 : Int) < (s2.size : Int)
  · go_enter Tryd.func7, Tryd.ntmps7
    go_wp2_with fail
    refine (awake_c _ HS.out).mono ?_
    rintro e w2 ⟨rfl, hb2⟩
    have HB2 := hide hb2
    clear hb2
    go_wp2_with fail
    go_ret
    exact ⟨rfl, HB2.out⟩
  have hsm : s.size ≤ 4000 := by omega
  have hsm2 : s2.size ≤ 1000 := by omega
  go_enter Tryd.func7, Tryd.ntmps7
  go_wp2_with fail
  refine (awake_c _ HS.out).mono ?_
  rintro e w2 ⟨rfl, hb2⟩
  have HB2 := hide hb2
  clear hb2
  go_wp2_with fail
  refine (scan_a a0 cap0 s w2 (by omega) (HS.out.below HB2.out) ((T.out.below HB2.out).conv cap0)).mono ?_
  rintro e w3 ⟨hr, hb3⟩
  have HB3 := hide (HB2.out.trans (hb3.mono HB2.out.size))
  unfold ScanR at hr
  rw [if_neg (by omega)] at hr
  obtain ⟨l, er, hsc, hll, hr⟩ := hr
  clear hb3
  rcases er with _ | ⟨ln, cl⟩
  · obtain ⟨v, rfl, hown⟩ := hr
    obtain ⟨A, c, rfl, hrow⟩ := own_row hown
    obtain ⟨hs1, hs2⟩ := placed_sum l 0 ((placed_scan hsc).1 rfl)
    have WL := hide (ws_len (Ks s1) l 0)
    have WT := hide (sc_words hsc)
    have TB := hide (fun t ht => (sc_ok hsc t ht).2)
    have SC := hide hsc
    have SUM := hide hs1
    have R := hide hrow
    clear hown hrow hsc hs1
    go_wp2_with fail
    -- STAGE
    have b0 := Blk.new w3 9 #[.string ⟨#[32]⟩, .string ⟨#[10]⟩, .string ⟨#[9, 32, 13]⟩, .string ⟨#[32, 35, 32, 97, 32, 49, 32, 36, 32, 38, 10]⟩, .string ⟨#[10, 10, 35, 10]⟩, .string ⟨#[32, 32]⟩]
    have hb0 := (Below.refl w3.heap.size w3).alloc (Nat.le_refl _) (.cells #[.string ⟨#[32]⟩, .string ⟨#[10]⟩, .string ⟨#[9, 32, 13]⟩, .string ⟨#[32, 35, 32, 97, 32, 49, 32, 36, 32, 38, 10]⟩, .string ⟨#[10, 10, 35, 10]⟩, .string ⟨#[32, 32]⟩] 9)
    generalize w3.alloc (.cells #[.string ⟨#[32]⟩, .string ⟨#[10]⟩, .string ⟨#[9, 32, 13]⟩, .string ⟨#[32, 35, 32, 97, 32, 49, 32, 36, 32, 38, 10]⟩, .string ⟨#[10, 10, 35, 10]⟩, .string ⟨#[32, 32]⟩] 9) = W4 at *
    have HQ : Hid (∀ k, k < 6 → W4.cell? ⟨w3.heap.size, k, none⟩ = some (.string (bytes (sepL k)))) := hide fun k hk => (b0.cell k).trans (sepV_at k hk)
    have K4 := hide hb0
    have R4 := hide (R.out.below hb0)
    have SX := hide (long_ext (s2 := s2) SC.out)
    have Z3 := hide (long_size s s2)
    have hw48 : (ws (Ks s1) l 0).length ≤ 48000 := by have := WL.out; have := SUM.out; omega
    have W48 := hide hw48
    have KL := hide (Ks_lt s1)
    have KR := hide (ks_rem s1)
    clear b0 hb0 hw48
    have q0 := HQ.out 0 (by omega)
    go_loop [12, 13] (fun vs vi => ∃ (i : Nat) (C : ByteArray), i ≤ l.length ∧ vi = .int .i64 i ∧ vs = .string C ∧ Hid (∃ cur, C = bytes cur ∧ cur ++ ws (Ks s1) (l.drop i) i = ws (Ks s1) l 0)) (fun _ vi => l.length - (intOf vi).toNat)
    case atStart => exact ⟨0, ⟨#[]⟩, Nat.zero_le _, rfl, rfl, hide ⟨[], rfl, rfl⟩⟩
    case round =>
      obtain ⟨i, C, hi, rfl, rfl, INV⟩ := hrel
      have hC : C.size ≤ 48000 := Nat.le_trans (inv_len INV.out) W48.out
      by_cases hlt : i < l.length
      · obtain ⟨hc1, hA⟩ := R4.out
        obtain ⟨g, rfl, hg, hcell⟩ := hA (by omega)
        obtain ⟨t0, t1, t2, t3, t4⟩ := toks_at l i hlt
        have c1 := hcell _ _ t1
        have hx : l[i].s.size ≤ 4000 := Nat.le_trans (TB.out _ (List.getElem_mem hlt)) hsm
        have INV2 := hide (inv_step hlt INV.out)
        have ltI : (i : Int) < (l.length : Int) := by omega
        clear t0 t1 t2 t3 t4 hA hcell
        generalize l[i].s = sx at *
        have hl3 : ¬ 9223372036854775807 < C.size + sx.size := by omega
        have hsp : (bytes (sepL (Ks s1 i))).size ≤ 11 := by rw [bytes_size]; exact sep_len _
        by_cases h1 : i < s1.size
        · obtain ⟨x, rfl, hx1⟩ : ∃ x, a1 = some x ∧ Lies W4 x s1 := by
            rcases (T1.out.below HB3.out).below K4.out with ⟨_, h0⟩ | h
            · omega
            · exact h
          have d1 := hx1 i h1
          have hr := KR.out i h1
          have q1 := HQ.out _ (KL.out i)
          have hk6 := KL.out i
          clear hx1
          generalize Ks s1 i = kk at *
          generalize bytes (sepL kk) = sb at *
          have hl4 : ¬ 9223372036854775807 < C.size + sx.size + sb.size := by omega
          have h1I : (i : Int) < (s1.size : Int) := by omega
          have hk6I : (kk : Int) < 6 := by omega
          go_wp2_with fail
          go_round
          case rel => exact ⟨i + 1, _, by omega, by go_num, rfl, INV2⟩
          case measure => simp [intOf]; omega
        · have h0 : Ks s1 i = 0 := by unfold Ks; rw [dif_neg h1]
          have INV3 := INV2
          rw [h0] at INV3 hsp
          have h1I : ¬ (i : Int) < (s1.size : Int) := by omega
          generalize hsb : bytes (sepL 0) = sb at *
          have hl4 : ¬ 9223372036854775807 < C.size + sx.size + sb.size := by omega
          clear INV2 h0
          go_wp2_with fail
          go_round
          case rel => exact ⟨i + 1, _, by omega, by go_num, rfl, INV3⟩
          case measure => simp [intOf]; omega
      · obtain rfl : i = l.length := by omega
        have ltI : ¬ (l.length : Int) < (l.length : Int) := by omega
        have CE := hide (show C = bytes (ws (Ks s1) l 0) by
          obtain ⟨cur, rfl, h⟩ := INV.out
          rw [List.drop_length, ws, List.append_nil] at h
          rw [h])
        have Bn := hide (fun (o : Obj) => (below_drewN (Below.refl W4.heap.size W4) 1).alloc (Nat.le_refl _) o)
        have kb := fun (W : World) => run_bytes_of_string (P := Tryd.prog) W 9 22 5 C Tryd.underlying9 Tryd.underlying22 Tryd.underlying5
        have hlm : 0 + s.size ≤ maxLen := by unfold maxLen; omega
        have hlm2 : s.size + 1 ≤ maxLen := by unfold maxLen; omega
        have hlm3 : s.size + 1 + s2.size ≤ maxLen := by unfold maxLen; omega
        obtain ⟨i0, hi0, hz0, hz1, hz2⟩ := info_parts u8_info
        have hC2 : ¬ 9223372036854775807 < C.size := by omega
        by_cases hbig : (C.size : Int) ≤ 20000
        · obtain ⟨m, hal, hscm⟩ := sc_ws (Ks s1) l 0 [] 1 1 WT.out
          have AL := hide hal
          have SM : Hid (Sc C 0 1 1 m none) := hide (by rw [CE.out]; exact hscm)
          have C20 : Hid (C.size ≤ 20000) := hide (by omega)
          clear hal hscm
          go_wp2_with fail
          refine (scan_ok _ _ C _ C20.out (((HS.out.below HB3.out).below K4.out).below (Bn.out _)) (conv_new W4.drew C _ _) SM.out).mono ?_
          rintro e w5 ⟨⟨v, rfl, hown⟩, hb5⟩
          obtain ⟨A5, c5, rfl, hrow5⟩ := own_row hown
          have B45 := hide ((Bn.out _).trans (hb5.mono (Nat.le_of_lt (by simp))))
          have K5 := hide (K4.out.trans (B45.out.mono K4.out.size))
          have R5 := hide (R4.out.below B45.out)
          have M5 := hide hrow5
          clear hown hb5 hrow5
          have hl20 : l.length ≤ 20000 := by omega
          go_wp2_with fail
          refine (same_al A A5 c c5 l m w5 R5.out M5.out hl20 AL.out).mono ?_
          rintro e w6 ⟨rfl, hb6⟩
          have K6 := hide (K5.out.trans (hb6.mono K5.out.size))
          have HB6 := hide (HB3.out.trans (K6.out.mono HB3.out.size))
          clear hb6
          go_wp2_with (at_builtin; refine wpList_append_any _ rfl (.tmp 96) (.tmp 97) _ rfl w6.heap.size 5 i0 _ 1 1 Tryd.underlying22 hi0 hz0 hz1 hz2 rfl (by omega) (.slice (some ⟨w6.heap.size, 0, none⟩) 0 0) 0 [] rfl ?own w6.heap.size a0 s.size cap0 (bytesOf s) rfl ?rds (bytesOf_one s) hlm (by omega) (by simp) ?_)
          case own => exact own_empty5 w6
          case rds => exact (T.out.below HB6.out).reads.alloc (Nat.le_refl _) _
          intro v1 w7 hown1 hg1 hat1
          have hb7 : Below w6.heap.size w6 w7 := ((Below.refl _ _).alloc (Nat.le_refl _) _).grown hg1 (by simp) (by simp [Value.ownBlock])
          try rw [Nat.zero_add, List.nil_append] at hown1
          have B7 := hide hb7
          have O7 := hide (hown1.alloc (.cells #[.int .u8 10] 5))
          have RD : Hid (Reads (w7.alloc (.cells #[.int .u8 10] 5)) (w7.alloc (.cells #[.int .u8 10] 5)).heap.size 1 (some ⟨w7.heap.size, 0, none⟩) 1 [.int .u8 10]) := hide ⟨rfl, fun _ => ⟨_, rfl, by simp, fun j u hj => by
            rw [add_plain, Nat.zero_add, (Blk.new w7 5 #[.int .u8 10]).cell]
            simpa using hj⟩⟩
          clear hown1 hg1 hat1 hb7
          go_wp2_with (at_builtin; refine wpList_append_any _ rfl (.tmp 98) (.tmp 99) _ rfl w6.heap.size 5 i0 _ 1 1 Tryd.underlying22 hi0 hz0 hz1 hz2 rfl (by omega) v1 s.size (bytesOf s) rfl O7.out _ (some ⟨w7.heap.size, 0, none⟩) 1 1 [.int .u8 10] rfl RD.out (by intro u hu; simp at hu; subst hu; rfl) hlm2 (by omega) ?bas ?_)
          case bas => have := B7.out.size; simp; omega
          intro v2 w8 hown2 hg2 _
          have hb8 : Below w6.heap.size w6 w8 := (B7.out.alloc B7.out.size _).grown hg2 (by have := B7.out.size; simp; omega) (fun g hg => (own_lt O7.out hg).1)
          have B8 := hide hb8
          have O8 := hide hown2
          have HB8 := hide (HB6.out.trans (hb8.mono HB6.out.size))
          have T28 := hide (T2.out.below HB8.out)
          clear hown2 hg2 hb8
          go_wp2_with (at_builtin; refine wpList_append_any _ rfl (.tmp 102) (.tmp 103) _ rfl w6.heap.size 5 i0 _ 1 1 Tryd.underlying22 hi0 hz0 hz1 hz2 rfl (by omega) v2 (s.size + 1) (bytesOf s ++ [.int .u8 10]) rfl O8.out w8.heap.size a2 s2.size cap2 (bytesOf s2) rfl T28.out.reads (bytesOf_one s2) hlm3 (by omega) ?bas2 ?_)
          case bas2 => exact B8.out.size
          intro v3 w9 hown3 hg3 _
          have hb9 : Below w6.heap.size w6 w9 := B8.out.grown hg3 B8.out.size (fun g hg => (own_lt O8.out hg).1)
          have HB9 := hide (HB6.out.trans (hb9.mono HB6.out.size))
          rw [show bytesOf s ++ Value.int IntKind.u8 10 :: bytesOf s2 = bytesOf (bytes (s.data.toList ++ 10 :: s2.data.toList)) by rw [← long_bytes]; simp] at hown3
          obtain ⟨A9, c9, rfl, hT9⟩ := TextAt.own hown3
          have T9 := hide hT9
          obtain ⟨l2, e2, hsc3, hln3⟩ := SX.out
          have SZ := hide Z3.out
          generalize bytes (s.data.toList ++ 10 :: s2.data.toList) = S3 at *
          have K9 := hide (K6.out.trans (hb9.mono K6.out.size))
          clear hown3 hg3 hb9 hT9
          go_wp2_with fail
          refine (scan_a A9 c9 S3 w9 (by have := SZ.out; omega) (HS.out.below HB9.out) (T9.out.conv c9)).mono ?_
          rintro e wa ⟨hr, hba⟩
          have hs3 := SZ.out
          have HBa := hide (HB9.out.trans (hba.mono HB9.out.size))
          have Ka := hide (K9.out.trans (hba.mono K9.out.size))
          have Ra := hide (R.out.below Ka.out)
          unfold ScanR at hr
          rw [if_neg (by omega)] at hr
          obtain ⟨l3, er3, hsc4, hll3, hr⟩ := hr
          obtain ⟨rfl, rfl⟩ := hsc3.det hsc4
          clear hsc3 hsc4 hba hs3
          rcases e2 with _ | ⟨ln, cl⟩
          · obtain ⟨v, rfl, hown⟩ := hr
            obtain ⟨An, cn, rfl, hrow⟩ := own_row hown
            have Rn := hide (row_pre hrow)
            have hle : (l.length : Int) ≤ ((l ++ l2).length : Int) := by rw [List.length_append]; omega
            have hle2 : (l.length : Int) ≤ (cn : Int) := by have := Rn.out.1; omega
            have hl20 : l.length ≤ 20000 := by omega
            clear hown hrow
            generalize (l ++ l2).length = ll at *
            go_wp2_with fail
            refine (same_yes An A cn c l wa Rn.out Ra.out hl20).mono ?_
            rintro e wb ⟨rfl, hbb⟩
            have HBb := hide (HBa.out.trans (hbb.mono HBa.out.size))
            clear hbb
            go_wp2_with fail
            go_ret
            exact ⟨rfl, HBb.out⟩
          · obtain rfl := hr
            have h1 := hln3 ln cl rfl
            have h1I : (1 : Int) < (ln : Int) := by omega
            clear hln3
            go_wp2_with fail
            go_ret
            exact ⟨rfl, HBa.out⟩
        · have C20 : Hid (20000 < C.size) := hide (by omega)
          go_wp2_with fail
          refine (scan_a _ _ C _ (by omega) (((HS.out.below HB3.out).below K4.out).below (Bn.out _)) (conv_new W4.drew C _ _)).mono ?_
          rintro e w6 ⟨hr, hb5⟩
          unfold ScanR at hr
          rw [if_pos C20.out] at hr
          obtain rfl := hr
          have B45 := hide ((Bn.out _).trans (hb5.mono (Nat.le_of_lt (by simp))))
          have K6 := hide (K4.out.trans (B45.out.mono K4.out.size))
          have HB6 := hide (HB3.out.trans (K6.out.mono HB3.out.size))
          clear hb5
          go_wp2_with (at_builtin; refine wpList_append_any _ rfl (.tmp 96) (.tmp 97) _ rfl w6.heap.size 5 i0 _ 1 1 Tryd.underlying22 hi0 hz0 hz1 hz2 rfl (by omega) (.slice (some ⟨w6.heap.size, 0, none⟩) 0 0) 0 [] rfl ?own w6.heap.size a0 s.size cap0 (bytesOf s) rfl ?rds (bytesOf_one s) hlm (by omega) (by simp) ?_)
          case own => exact own_empty5 w6
          case rds => exact (T.out.below HB6.out).reads.alloc (Nat.le_refl _) _
          intro v1 w7 hown1 hg1 hat1
          have hb7 : Below w6.heap.size w6 w7 := ((Below.refl _ _).alloc (Nat.le_refl _) _).grown hg1 (by simp) (by simp [Value.ownBlock])
          try rw [Nat.zero_add, List.nil_append] at hown1
          have B7 := hide hb7
          have O7 := hide (hown1.alloc (.cells #[.int .u8 10] 5))
          have RD : Hid (Reads (w7.alloc (.cells #[.int .u8 10] 5)) (w7.alloc (.cells #[.int .u8 10] 5)).heap.size 1 (some ⟨w7.heap.size, 0, none⟩) 1 [.int .u8 10]) := hide ⟨rfl, fun _ => ⟨_, rfl, by simp, fun j u hj => by
            rw [add_plain, Nat.zero_add, (Blk.new w7 5 #[.int .u8 10]).cell]
            simpa using hj⟩⟩
          clear hown1 hg1 hat1 hb7
          go_wp2_with (at_builtin; refine wpList_append_any _ rfl (.tmp 98) (.tmp 99) _ rfl w6.heap.size 5 i0 _ 1 1 Tryd.underlying22 hi0 hz0 hz1 hz2 rfl (by omega) v1 s.size (bytesOf s) rfl O7.out _ (some ⟨w7.heap.size, 0, none⟩) 1 1 [.int .u8 10] rfl RD.out (by intro u hu; simp at hu; subst hu; rfl) hlm2 (by omega) ?bas ?_)
          case bas => have := B7.out.size; simp; omega
          intro v2 w8 hown2 hg2 _
          have hb8 : Below w6.heap.size w6 w8 := (B7.out.alloc B7.out.size _).grown hg2 (by have := B7.out.size; simp; omega) (fun g hg => (own_lt O7.out hg).1)
          have B8 := hide hb8
          have O8 := hide hown2
          have HB8 := hide (HB6.out.trans (hb8.mono HB6.out.size))
          have T28 := hide (T2.out.below HB8.out)
          clear hown2 hg2 hb8
          go_wp2_with (at_builtin; refine wpList_append_any _ rfl (.tmp 102) (.tmp 103) _ rfl w6.heap.size 5 i0 _ 1 1 Tryd.underlying22 hi0 hz0 hz1 hz2 rfl (by omega) v2 (s.size + 1) (bytesOf s ++ [.int .u8 10]) rfl O8.out w8.heap.size a2 s2.size cap2 (bytesOf s2) rfl T28.out.reads (bytesOf_one s2) hlm3 (by omega) ?bas2 ?_)
          case bas2 => exact B8.out.size
          intro v3 w9 hown3 hg3 _
          have hb9 : Below w6.heap.size w6 w9 := B8.out.grown hg3 B8.out.size (fun g hg => (own_lt O8.out hg).1)
          have HB9 := hide (HB6.out.trans (hb9.mono HB6.out.size))
          rw [show bytesOf s ++ Value.int IntKind.u8 10 :: bytesOf s2 = bytesOf (bytes (s.data.toList ++ 10 :: s2.data.toList)) by rw [← long_bytes]; simp] at hown3
          obtain ⟨A9, c9, rfl, hT9⟩ := TextAt.own hown3
          have T9 := hide hT9
          obtain ⟨l2, e2, hsc3, hln3⟩ := SX.out
          have SZ := hide Z3.out
          generalize bytes (s.data.toList ++ 10 :: s2.data.toList) = S3 at *
          have K9 := hide (K6.out.trans (hb9.mono K6.out.size))
          clear hown3 hg3 hb9 hT9
          go_wp2_with fail
          refine (scan_a A9 c9 S3 w9 (by have := SZ.out; omega) (HS.out.below HB9.out) (T9.out.conv c9)).mono ?_
          rintro e wa ⟨hr, hba⟩
          have hs3 := SZ.out
          have HBa := hide (HB9.out.trans (hba.mono HB9.out.size))
          have Ka := hide (K9.out.trans (hba.mono K9.out.size))
          have Ra := hide (R.out.below Ka.out)
          unfold ScanR at hr
          rw [if_neg (by omega)] at hr
          obtain ⟨l3, er3, hsc4, hll3, hr⟩ := hr
          obtain ⟨rfl, rfl⟩ := hsc3.det hsc4
          clear hsc3 hsc4 hba hs3
          rcases e2 with _ | ⟨ln, cl⟩
          · obtain ⟨v, rfl, hown⟩ := hr
            obtain ⟨An, cn, rfl, hrow⟩ := own_row hown
            have Rn := hide (row_pre hrow)
            have hle : (l.length : Int) ≤ ((l ++ l2).length : Int) := by rw [List.length_append]; omega
            have hle2 : (l.length : Int) ≤ (cn : Int) := by have := Rn.out.1; omega
            have hl20 : l.length ≤ 20000 := by omega
            clear hown hrow
            generalize (l ++ l2).length = ll at *
            go_wp2_with fail
            refine (same_yes An A cn c l wa Rn.out Ra.out hl20).mono ?_
            rintro e wb ⟨rfl, hbb⟩
            have HBb := hide (HBa.out.trans (hbb.mono HBa.out.size))
            clear hbb
            go_wp2_with fail
            go_ret
            exact ⟨rfl, HBb.out⟩
          · obtain rfl := hr
            have h1 := hln3 ln cl rfl
            have h1I : (1 : Int) < (ln : Int) := by omega
            clear hln3
            go_wp2_with fail
            go_ret
            exact ⟨rfl, HBa.out⟩
  · obtain rfl := hr
    clear hsc
    go_wp2_with fail
    go_ret
    exact ⟨rfl, HB3.out⟩
end Go.Proofs.YtekdchhengcfoaaDoor.ScanBlanksW
