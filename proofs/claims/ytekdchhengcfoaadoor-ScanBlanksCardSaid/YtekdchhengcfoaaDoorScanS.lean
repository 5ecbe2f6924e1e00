/- The reference's scan. -/
import Derived.Test.YtekdchhengcfoaaDoorRows
import Derived.Test.YtekdchhengcfoaaDoorScanR
namespace Go.Proofs.YtekdchhengcfoaaDoor
open Go.RowKit
set_option linter.unusedVariables false
set_option linter.unusedSimpArgs false
structure RInv (s : ByteArray) (pos line col : Nat) (acc : List Tok) : Prop where
  hp : pos ≤ s.size
  hl : line ≤ pos + 1
  hc : col ≤ pos + 1
  h5 : acc.length ≤ pos
  go : ∀ l e, Sc s pos line col l e → Sc s 0 1 1 (acc ++ l) e
theorem bel_append {w wr w1 w2 : World} {size n : Nat} {e : TypeId} {v : Value} {xs : List Value} {A B : Obj} (hb : Below w.heap.size w wr) (hown : wr.ownsRow w.heap.size e size v n xs)
    (h1 : Below wr.heap.size wr w1) (hg : ((w1.alloc A).alloc B).grownBy w2 v.ownBlock) : Below w.heap.size w w2 := by
  have hsz := h1.size
  have hsw := hb.size
  have hlt : ∀ g, v.ownBlock = some g → w.heap.size ≤ g ∧ g < wr.heap.size := fun g hg => own_lt hown hg
  have hA : (w1.alloc A).heap.size = w1.heap.size + 1 := by simp
  have hB : ((w1.alloc A).alloc B).heap.size = w1.heap.size + 2 := by simp
  have h2 : Below w.heap.size w w1 := hb.trans (h1.mono hsw)
  refine ⟨hg.os.trans h2.os, hg.tape.trans h2.tape, hg.output.trans h2.output, ?_, fun k hk => ?_⟩
  · have := hg.size; omega
  · exact (hg.block k (by omega) (fun h => by have := hlt _ h.symm; omega)).trans ((Below.heap_alloc (w1.alloc A) B k (by omega)).trans ((Below.heap_alloc w1 A k (by omega)).trans (h2.block k hk)))
theorem skip_le (s : ByteArray) : ∀ (k pos : Nat), s.size - pos = k → pos ≤ s.size → skip s pos ≤ s.size
  | 0, pos, h, h' => by rw [skip_end (by omega)]; exact h'
  | k + 1, pos, h, h' => by
    by_cases hp : pos < s.size
    · by_cases hn : (s[pos]).toNat = 10
      · rw [skip_stop hp hn]; exact h'
      · rw [skip_go hp hn]; exact skip_le s k (pos + 1) (by omega) (by omega)
    · rw [skip_end hp]; exact h'
set_option maxRecDepth 100000 in
set_option maxHeartbeats 4000000 in
theorem scan_b (x : Addr) (cap : Nat) (s : ByteArray) (w : World) (hs : s.size ≤ 20000) (hcap : s.size ≤ cap) (hcap2 : cap ≤ maxLen) (hx : Lies w x s) :
    Calls Tryd.prog 9 #[.slice (some x) s.size cap] w fun e w' => ScanR s w.heap.size e w' ∧ Below w.heap.size w w' := by
  have h1 : ¬ (20000 : Int) < (s.size : Int) := by omega
  have L : Hid (¬ 20000 < s.size) := hide (by omega)
  have X := hide hx
  clear hx
  unfold maxLen at hcap2
  obtain ⟨i0, hi0, hz0, hz1, hz2⟩ := info_parts tok_info
  go_enter Tryd.func9, Tryd.ntmps9
  go_wp2_with fail
  go_loopw [6, 7, 8, 9] (fun vl vpos vline vcol wr => ∃ (pos line col : Nat) (acc : List Tok), RInv s pos line col acc ∧ vpos = .int .i64 pos ∧ vline = .int .i64 line ∧ vcol = .int .i64 col ∧
    wr.ownsRow w.heap.size 31 5 vl acc.length (toks acc) ∧ Below w.heap.size w wr) (fun _ vpos _ _ _ => s.size - (intOf vpos).toNat)
  case atStart => exact ⟨0, 1, 1, [], ⟨by omega, by omega, by omega, by simp, fun l e h => h⟩, rfl, rfl, rfl, ⟨rfl, .inl ⟨rfl, rfl⟩⟩, Below.refl _ _⟩
  case round =>
    obtain ⟨pos, line, col, acc, hinv, rfl, rfl, rfl, hown, hbw⟩ := hrel
    have Inv := hide hinv
    have Own := hide hown
    have Bw := hide hbw
    have b1 := hinv.hp
    have b2 := hinv.hl
    have b3 := hinv.hc
    clear hinv hown hbw
    by_cases hp : pos < s.size
    · have hpI : (pos : Int) < (s.size : Int) := by omega
      have hc0 := (X.out.below Bw.out) pos hp
      by_cases h10 : (s[pos]).toNat = 10
      · have c10 : (((s[pos]).toNat : Int) == 10) = true := by simp [h10]
        have I2 : RInv s (pos + 1) (line + 1) 1 acc := ⟨by omega, by omega, by omega, by have := Inv.out.h5; omega, fun l e h => Inv.out.go l e (.nl hp h10 h)⟩
        have H10 := hide h10
        clear h10
        go_wp2_with fail
        go_roundw
        case rel => exact ⟨pos + 1, line + 1, 1, acc, I2, by first | trivial | go_num, by first | trivial | go_num, rfl, Own.out, Bw.out⟩
        case measure => simp [intOf]; omega
      have c10 : (((s[pos]).toNat : Int) == 10) = false := by
        have : ¬ ((s[pos]).toNat : Int) = 10 := by omega
        simpa using this
      by_cases hb : (s[pos]).toNat = 32 ∨ (s[pos]).toNat = 9 ∨ (s[pos]).toNat = 13
      · have I2 : RInv s (pos + 1) line (col + 1) acc := ⟨by omega, by omega, by omega, by have := Inv.out.h5; omega, fun l e h => Inv.out.go l e (.blank hp hb h)⟩
        have HBB := hide hb
        have ways : ∀ K : Prop, ((((s[pos]).toNat : Int) == 32) = true → K) → ((((s[pos]).toNat : Int) == 32) = false → (((s[pos]).toNat : Int) == 9) = true → K) → ((((s[pos]).toNat : Int) == 32) = false → (((s[pos]).toNat : Int) == 9) = false → (((s[pos]).toNat : Int) == 13) = true → K) → K := fun K k1 k2 k3 => by
          by_cases e1 : ((s[pos]).toNat : Int) = 32
          · exact k1 (by simpa using e1)
          · by_cases e2 : ((s[pos]).toNat : Int) = 9
            · exact k2 (by simpa using e1) (by simpa using e2)
            · exact k3 (by simpa using e1) (by simpa using e2) (by have : ((s[pos]).toNat : Int) = 13 := by omega
                                                                   simpa using this)
        clear hb h10
        refine ways _ ?_ ?_ ?_
        all_goals
          intros
          clear ways
          go_wp2_with fail
          go_roundw
          case rel => exact ⟨pos + 1, line, col + 1, acc, I2, by first | trivial | go_num, by first | trivial | go_num, by first | trivial | go_num, Own.out, Bw.out⟩
          case measure => simp [intOf]; omega
      have b32 : (((s[pos]).toNat : Int) == 32) = false := by
        have : ¬ ((s[pos]).toNat : Int) = 32 := by omega
        simpa using this
      have b9 : (((s[pos]).toNat : Int) == 9) = false := by
        have : ¬ ((s[pos]).toNat : Int) = 9 := by omega
        simpa using this
      have b13 : (((s[pos]).toNat : Int) == 13) = false := by
        have : ¬ ((s[pos]).toNat : Int) = 13 := by omega
        simpa using this
      by_cases h35 : (s[pos]).toNat = 35
      · have c35 : (((s[pos]).toNat : Int) == 35) = true := by simp [h35]
        have HH := hide h35
        have hsk := skip_le s _ pos rfl b1
        have hsg := skip_ge s _ pos rfl
        have hsn : pos < skip s pos := by
          rw [skip_go hp h10]
          exact skip_ge s _ (pos + 1) rfl
        have I2 : RInv s (skip s pos) line (col + (skip s pos - pos)) acc := ⟨hsk, by omega, by omega, by have := Inv.out.h5; omega, fun l e h => Inv.out.go l e (.hash hp h35 h)⟩
        clear hb h10 h35
        go_wp2_with fail
        go_loopw [7, 9] (fun vp vc wr2 => ∃ k : Nat, pos ≤ k ∧ k ≤ s.size ∧ vp = .int .i64 k ∧ vc = .int .i64 ((col + (k - pos) : Nat) : Int) ∧ Hid (skip s k = skip s pos) ∧ wr = wr2) (fun vp _ _ => s.size - (intOf vp).toNat)
        case atStart => exact ⟨pos, Nat.le_refl _, b1, rfl, by simp, hide rfl, rfl⟩
        case round =>
          obtain ⟨q, hq1, hq2, rfl, rfl, SK, rfl⟩ := hrel
          by_cases hq : q < s.size
          · have hqI : (q : Int) < (s.size : Int) := by omega
            have hcq := (X.out.below Bw.out) q hq
            by_cases hn : (s[q]).toNat = 10
            · have cn : (((s[q]).toNat : Int) == 10) = true := by simp [hn]
              have eq : skip s pos = q := by rw [← SK.out]; exact skip_stop hq hn
              rw [eq] at I2
              clear hn
              go_wp2_with fail
              go_roundw
              case rel => exact ⟨q, line, col + (q - pos), acc, I2, rfl, rfl, rfl, Own.out, Bw.out⟩
              case measure => simp [intOf]; omega
            · have cn : (((s[q]).toNat : Int) == 10) = false := by
                have : ¬ ((s[q]).toNat : Int) = 10 := by omega
                simpa using this
              have SK2 := hide ((skip_go hq hn).symm.trans SK.out)
              have HN := hide hn
              clear hn
              go_wp2_with fail
              go_roundw
              case rel => exact ⟨q + 1, by omega, by omega, by first | trivial | go_num, (by congr 1; omega), SK2, by first | rfl | trivial⟩
              case measure => simp [intOf]; omega
          · have hqI : ¬ (q : Int) < (s.size : Int) := by omega
            have eq : skip s pos = q := by rw [← SK.out]; exact skip_end hq
            rw [eq] at I2
            go_wp2_with fail
            go_roundw
            case rel => exact ⟨q, line, col + (q - pos), acc, I2, rfl, rfl, rfl, Own.out, Bw.out⟩
            case measure => simp [intOf]; omega
      have c35 : (((s[pos]).toNat : Int) == 35) = false := by
        have : ¬ ((s[pos]).toNat : Int) = 35 := by omega
        simpa using this
      have Hc := hide (show ¬ (s[pos]).toNat = 10 ∧ ¬ (s[pos]).toNat = 32 ∧ ¬ (s[pos]).toNat = 9 ∧ ¬ (s[pos]).toNat = 13 ∧ ¬ (s[pos]).toNat = 35 by omega)
      clear hb h10 h35
      obtain ⟨e0, e1⟩ := endB_bd hp
      have e2 : (endB s pos : Int) ≤ (cap : Int) := by omega
      have e3 : (pos : Int) ≤ (endB s pos : Int) := by omega
      have kc := fun C => conv_piece (X.out.below Bw.out) pos (endB s pos) C (by omega) e1
      rcases hw : wordOf (s.extract pos s.size) with _ | ⟨k0, n0, v0⟩
      · have R := hide (Inv.out.go _ _ (.bad hp Hc.out hw))
        have W := hide hw
        clear hw
        go_wp2_with (first | (go_at_call 22; refine (end_b x cap s pos _ hs hcap hp (X.out.below Bw.out)).mono ?_; rintro e w' ⟨rfl, rfl⟩) | (go_at_call 23; refine (of_b s pos _ hs hp).mono ?_; rintro e w1 ⟨⟨k, v, rfl, hW1, hW2⟩, hb1⟩; obtain rfl : k = 0 := hW2 W.out; have HB1 := hide hb1; clear hb1 hW1 hW2))
        refine bodyPost_ret (v := .tuple #[.slice none 0 0, .int .i64 line, .int .i64 col, .int .i64 10]) (by simp [results, Tryd.results9, go_sem]) rfl ⟨?_, ?_⟩
        · unfold ScanR
          rw [if_neg L.out]
          exact ⟨_, _, R.out, by have := Inv.out.h5; simp; omega, rfl⟩
        · exact (Bw.out.trans (HB1.out.mono Bw.out.size)).alloc (Nat.le_trans Bw.out.size HB1.out.size) _
      · have I0 : ∀ l e, Sc s (pos + n0) line (col + n0) l e → Sc s 0 1 1 (acc ++ (⟨k0, s.extract pos (pos + n0), v0, line, col⟩ :: l)) e := fun l e h => Inv.out.go _ e (.tok hp Hc.out hw h)
        have W := hide hw
        obtain ⟨a0, a1, _⟩ := wordOf_ascii hw
        rw [tail_size] at a1
        have hls2 := Inv.out.h5
        have hkm : acc.length + 1 ≤ maxLen := by unfold maxLen; omega
        have hone : ∀ (a b c d : Int) (x : ByteArray), ∀ u ∈ [Value.int .u8 a, .string x, .int .i64 b, .int .i64 c, .int .i64 d], u.oneCell' = true := by simp [Value.oneCell']
        have HI0 := hide I0
        clear hw I0
        go_wp2_with (first | (go_at_call 22; refine (end_b x cap s pos _ hs hcap hp (X.out.below Bw.out)).mono ?_; rintro e w' ⟨rfl, rfl⟩) | (go_at_call 23; refine (of_b s pos _ hs hp).mono ?_; rintro e w1 ⟨⟨k, v, rfl, hW1, hW2⟩, hb1⟩; obtain ⟨rfl, hend, rfl, hk1, hk4⟩ := hW1 _ _ _ W.out; have hk0 : (k == 0) = false := (by have : ¬ k = 0 := (by omega); simpa using this); have HB1 := hide hb1; clear hb1 hW1 hW2) | (at_builtin; refine wpList_append_own _ rfl (.tmp 42) (.tmp 44) 23 rfl w.heap.size 31 i0 tokZ 5 48 Tryd.underlying23 hi0 hz0 hz1 hz2 rfl (by decide) _ acc.length (toks acc) rfl ?ownn _ 1 1 [.int .u8 k, .string (s.extract pos (pos + n0)), .int .i64 v, .int .i64 line, .int .i64 col] rfl rfl ?cellss ?honee ?hkmm ?hbb ?hbasee ?goo))
        case ownn => exact own_below Own.out ((HB1.out.alloc HB1.out.size _).alloc (Nat.le_trans HB1.out.size (by simp)) _)
        case cellss =>
          intro j u hj
          have h5 := cells_blk (Blk.new (w1.alloc (.cells #[.int .u8 k, .string (s.extract pos (pos + n0)), .int .i64 v, .int .i64 line, .int .i64 col] 31)) 31 #[.int .u8 k, .string (s.extract pos (pos + n0)), .int .i64 v, .int .i64 line, .int .i64 col]) j u (by simpa using hj)
          simpa using h5
        case honee => exact hone _ _ _ _ _
        case hkmm => exact hkm
        case hbb => omega
        case hbasee =>
          have := HB1.out.size
          have := Bw.out.size
          simp
          omega
        intro v' w2 hown' hgrow _
        have Bw3 := hide (bel_append Bw.out Own.out HB1.out hgrow)
        rw [hend] at e0 e1 e3
        have Own3 := hide hown'
        have I2 : RInv s (pos + n0) line (col + n0) (acc ++ [⟨k, s.extract pos (pos + n0), v, line, col⟩]) := ⟨by omega, by omega, by omega, by simp; omega, fun l e h => by rw [List.append_assoc]; exact HI0.out l e h⟩
        clear hown' hgrow
        go_wp2_with fail
        go_roundw
        case rel =>
          refine ⟨pos + n0, line, col + n0, _, I2, by first | rfl | trivial | go_num, rfl, ?_, ?_, Bw3.out⟩
          · congr 1; omega
          · rw [toks_snoc]
            simp only [tokC, List.length_append, List.length_cons, List.length_nil, Nat.zero_add]
            exact Own3.out
        case measure => simp [intOf]; omega
    · have hpI : ¬ (pos : Int) < (s.size : Int) := by omega
      have R : Hid (ScanR s w.heap.size (.returned (.tuple #[u6, .int .i64 0, .int .i64 0, .int .i64 0])) wr) := hide (by
        unfold ScanR
        rw [if_neg L.out]
        refine ⟨acc, none, by have := Inv.out.go [] none (.fin hp); simpa using this, by have := Inv.out.h5; omega, u6, rfl, Own.out⟩)
      go_wp2_with fail
      exact bodyPost_ret (v := .tuple #[u6, .int .i64 0, .int .i64 0, .int .i64 0]) (by simp [results, Tryd.results9, go_sem]) rfl ⟨R.out, Bw.out⟩
end Go.Proofs.YtekdchhengcfoaaDoor
