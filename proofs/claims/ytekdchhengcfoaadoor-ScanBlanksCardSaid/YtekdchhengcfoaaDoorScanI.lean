/- The program's scan. -/
import Derived.Test.YtekdchhengcfoaaDoorRows
import Derived.Test.YtekdchhengcfoaaDoorScanH
namespace Go.Proofs.YtekdchhengcfoaaDoor
open Go.RowKit
set_option linter.unusedVariables false
set_option linter.unusedSimpArgs false
def tokC (t : Tok) : List Value := [.int .u8 t.k, .string t.s, .int .i64 t.n, .int .i64 t.l, .int .i64 t.c]
def toks (l : List Tok) : List Value := l.flatMap tokC
theorem toks_len : ∀ l : List Tok, (toks l).length = l.length * 5
  | [] => rfl
  | t :: l => by
    have := toks_len l
    simp only [toks, List.flatMap_cons, List.length_append, List.length_cons] at this ⊢
    have h5 : (tokC t).length = 5 := rfl
    omega
theorem toks_snoc (l : List Tok) (t : Tok) : toks (l ++ [t]) = toks l ++ tokC t := by simp [toks]
def tokZ : Value := .agg #[.int .u8 0, .string ⟨#[]⟩, .int .i64 0, .int .i64 0, .int .i64 0]
theorem tok_info : (Tryd.prog.info? 31).map (fun i => (i.zero, i.size, i.bytes)) = some (some tokZ, 5, 48) := by kernel_rfl
/-- What a scan of a text is told as. -/
def ScanR (s : ByteArray) (B : Nat) (e : Ending) (w' : World) : Prop :=
  if 20000 < s.size then e = .returned (.tuple #[.slice none 0 0, .int .i64 0, .int .i64 0, .int .i64 3])
  else ∃ l er, Sc s 0 1 1 l er ∧ l.length ≤ s.size ∧ match er with
    | none => ∃ v, e = .returned (.tuple #[v, .int .i64 0, .int .i64 0, .int .i64 0]) ∧ w'.ownsRow B 31 5 v l.length (toks l)
    | some (line, col) => e = .returned (.tuple #[.slice none 0 0, .int .i64 line, .int .i64 col, .int .i64 10])
theorem isBlk_iff (c : Nat) : isBlk c = true ↔ c = 32 ∨ c = 9 ∨ c = 13 := by
  simp [isBlk]; omega
theorem own_iter {w : World} {k size n : Nat} {e : TypeId} {v : Value} {xs : List Value} (h : w.ownsRow (k + 1) e size v n xs) (s : ByteArray) (pos : Nat) : (w.iterAt k s pos).ownsRow (k + 1) e size v n xs := by
  refine ⟨h.1, h.2.imp id ?_⟩
  rintro ⟨g, cap, cur, rfl, hge, hh, r⟩
  exact ⟨g, cap, cur, rfl, hge, (Lib.iterAt_other w k g s pos (by omega)).trans hh, r⟩
theorem own_mono {w : World} {B k size n : Nat} {e : TypeId} {v : Value} {xs : List Value} (h : w.ownsRow k e size v n xs) (hB : B ≤ k) : w.ownsRow B e size v n xs := by
  refine ⟨h.1, h.2.imp id ?_⟩
  rintro ⟨g, cap, cur, rfl, hge, r⟩
  exact ⟨g, cap, cur, rfl, by omega, r⟩
theorem own_lt {w : World} {k size n g : Nat} {e : TypeId} {v : Value} {xs : List Value} (h : w.ownsRow k e size v n xs) (hg : v.ownBlock = some g) : k ≤ g ∧ g < w.heap.size := by
  rcases h.2 with ⟨rfl, _⟩ | ⟨g', cap, cur, rfl, hge, hh, _⟩
  · simp [Value.ownBlock] at hg
  · obtain rfl : g' = g := by simpa [Value.ownBlock] using hg
    exact ⟨hge, (Array.getElem?_eq_some_iff.1 hh).1⟩
theorem cells_blk {w : World} {g : Nat} {t : TypeId} {cs : Array Value} (h : Blk w g t cs) : ∀ j u, cs.toList[j]? = some u → w.cell? ((⟨g, 0, none⟩ : Addr).add j) = some u := fun j u hj => by
  have hadd : (⟨g, 0, none⟩ : Addr).add j = ⟨g, j, none⟩ := by unfold Addr.add; split <;> simp_all
  rw [hadd, h.cell j]
  simpa using hj
/-- What an append behind a call and two new blocks leaves. -/
theorem after_append {w wr w1 w2 : World} {size n : Nat} {e : TypeId} {v : Value} {xs : List Value} {A B : Obj} (hw : w.heap.size < wr.heap.size) (hb : Below w.heap.size w wr) (hown : wr.ownsRow (w.heap.size + 1) e size v n xs)
    (h1 : Below wr.heap.size wr w1) (hg : ((w1.alloc A).alloc B).grownBy w2 v.ownBlock) : w2.heap[w.heap.size]? = wr.heap[w.heap.size]? ∧ Below w.heap.size w w2 ∧ (∀ i, w2.cell? ⟨w1.heap.size, i, none⟩ = (w1.alloc A).cell? ⟨w1.heap.size, i, none⟩) := by
  have hsz := h1.size
  have hlt : ∀ g, v.ownBlock = some g → w.heap.size + 1 ≤ g ∧ g < wr.heap.size := fun g hg => own_lt hown hg
  have hA : (w1.alloc A).heap.size = w1.heap.size + 1 := by simp
  have hB : ((w1.alloc A).alloc B).heap.size = w1.heap.size + 2 := by simp
  have hblk : ∀ i, i < w1.heap.size → some i ≠ v.ownBlock → w2.heap[i]? = w1.heap[i]? := fun i hi hne =>
    (hg.block i (by omega) hne).trans ((Below.heap_alloc (w1.alloc A) B i (by omega)).trans (Below.heap_alloc w1 A i hi))
  refine ⟨?_, ?_, fun i => ?_⟩
  · rw [hblk _ (by omega) (fun h => by have := hlt _ h.symm; omega)]
    exact h1.block _ hw
  · have h2 : Below w.heap.size w w1 := hb.trans (h1.mono (by omega))
    refine ⟨hg.os.trans h2.os, hg.tape.trans h2.tape, hg.output.trans h2.output, ?_, fun k hk => ?_⟩
    · have := hg.size; omega
    · rw [hblk k (by omega) (fun h => by have := hlt _ h.symm; omega)]
      exact h2.block k hk
  · have e1 : w2.heap[w1.heap.size]? = (w1.alloc A).heap[w1.heap.size]? :=
      (hg.block _ (by omega) (fun h => by have := hlt _ h.symm; omega)).trans (Below.heap_alloc (w1.alloc A) B _ (by omega))
    have := hg.cell_far ⟨w1.heap.size, i, none⟩ (by show w1.heap.size < _; omega) (fun h => by have := hlt _ h.symm; simp at this; omega)
    rw [this]
    exact World.cell?_alloc_past _ _ _ (by omega)
theorem own_below {w w' : World} {k size n : Nat} {e : TypeId} {v : Value} {xs : List Value} (h : w.ownsRow k e size v n xs) (hb : Below w.heap.size w w') : w'.ownsRow k e size v n xs := by
  refine ⟨h.1, h.2.imp id ?_⟩
  rintro ⟨g, cap, cur, rfl, hge, hh, r⟩
  exact ⟨g, cap, cur, rfl, hge, (hb.block g (Array.getElem?_eq_some_iff.1 hh).1).trans hh, r⟩
set_option maxRecDepth 100000 in
set_option maxHeartbeats 4000000 in
theorem scan_a (p : Option Addr) (cap : Nat) (s : ByteArray) (w : World) (hs : s.size ≤ 9223372036854775807) (hg : Sg w)
    (hcv : (convert 22 9 (.slice p s.size cap)).run Tryd.prog w = .ok (.string s) w) :
    Calls Tryd.prog 10 #[.slice p s.size cap] w fun e w' => ScanR s w.heap.size e w' ∧ Below w.heap.size w w' := by
  by_cases hlong : 20000 < s.size
  · have h1 : (20000 : Int) < (s.size : Int) := by omega
    have R := hide (show ScanR s w.heap.size (.returned (.tuple #[.slice none 0 0, .int .i64 0, .int .i64 0, .int .i64 3])) w by unfold ScanR; rw [if_pos hlong])
    clear hcv hlong
    go_enter Tryd.func10, Tryd.ntmps10
    go_wp2_with fail
    exact bodyPost_ret (v := .tuple #[.slice none 0 0, .int .i64 0, .int .i64 0, .int .i64 3]) (by simp [results, Tryd.results10, go_sem]) rfl ⟨R.out, Below.refl _ _⟩
  have h1 : ¬ (20000 : Int) < (s.size : Int) := by omega
  have L := hide hlong
  have G := hide hg
  clear hlong hg
  obtain ⟨i0, hi0, hz0, hz1, hz2⟩ := info_parts tok_info
  go_enter Tryd.func10, Tryd.ntmps10
  go_wp2_with fail
  go_loopw [2, 3, 7, 8, 9] (fun vl vline vls vnx vrm wr => ∃ (pos line ls nx : Nat) (rm : Bool) (acc : List Tok), ScInv s pos line ls nx rm acc ∧ vline = .int .i64 line ∧ vls = .int .i64 ls ∧ vnx = .int .i64 nx ∧ vrm = .bool rm ∧
    wr.heap[w.heap.size]? = some (.stringIter s pos) ∧ wr.ownsRow (w.heap.size + 1) 31 5 vl acc.length (toks acc) ∧ Below w.heap.size w wr) (fun _ _ _ _ _ wr => s.size - wr.iterPos w.heap.size)
  case atStart => exact ⟨0, 1, 0, 0, false, [], inv_start s, rfl, rfl, rfl, rfl, World.iter_heap w s 0, ⟨rfl, .inl ⟨rfl, rfl⟩⟩, (Below.refl _ w).alloc (Nat.le_refl _) _⟩
  case round =>
    obtain ⟨pos, line, ls, nx, rm, acc, hinv, rfl, rfl, rfl, rfl, hit, hown, hbw⟩ := hrel
    have Inv := hide hinv
    have Hit := hide hit
    have Own := hide hown
    have Bw := hide hbw
    have hsz : w.heap.size < wr.heap.size := (Array.getElem?_eq_some_iff.1 hit).1
    clear hit hinv hown hbw
    by_cases hp : pos < s.size
    · by_cases ha : (s[pos]).toNat < 128
      · have hnx : ∀ ty, (Instr.next (.pointer (some ⟨w.heap.size, 0, none⟩)) true ty).run Tryd.prog wr = _ := fun ty => Lib.run_next_ascii_at wr w.heap.size s pos ty Hit.out hp ha
        have hit2 := hide (Lib.iterAt_heap wr w.heap.size s pos (pos + 1) Hit.out)
        have bw2 := hide (Lib.below_iterAt Bw.out (k := w.heap.size) (Nat.le_refl _) s (pos + 1))
        have own2 := hide (own_iter Own.out s (pos + 1))
        by_cases hn : pos < nx
        · obtain ⟨rfl, hI⟩ := inv_skip Inv.out hn
          have I2 := hide hI
          clear hI
          have hn' : (pos : Int) < (nx : Int) := by omega
          go_wp2_with fail
          go_roundw
          case rel => exact ⟨pos + 1, line, ls, nx, false, acc, I2.out, rfl, rfl, rfl, rfl, hit2.out, own2.out, bw2.out⟩
          case measure =>
            simp only [World.iterPos, hit2.out, Hit.out]
            omega
        have hn' : ¬ (pos : Int) < (nx : Int) := by omega
        have Hn := hide hn
        clear hn
        by_cases h10 : (s[pos]).toNat = 10
        · have I2 := hide (inv_nl Inv.out Hn.out hp h10)
          have c10 : (((s[pos]).toNat : Int) == 10) = true := by simp [h10]
          have o1 := Inv.out.hl
          clear ha
          go_wp2_with fail
          go_roundw
          case rel => exact ⟨pos + 1, line + 1, pos + 1, nx, false, acc, I2.out, by go_num, by go_num, rfl, rfl, hit2.out, own2.out, bw2.out⟩
          case measure =>
            simp only [World.iterPos, hit2.out, Hit.out]
            omega
        have c10 : (((s[pos]).toNat : Int) == 10) = false := by
          have : ¬ ((s[pos]).toNat : Int) = 10 := by omega
          simpa using this
        cases rm with
        | true =>
          have I2 := hide (inv_remark Inv.out (skip_go hp h10) (by omega) (by omega))
          have H10 := hide h10
          clear h10 ha
          go_wp2_with fail
          go_roundw
          case rel => exact ⟨pos + 1, line, ls, nx, true, acc, I2.out, rfl, rfl, rfl, rfl, hit2.out, own2.out, bw2.out⟩
          case measure =>
            simp only [World.iterPos, hit2.out, Hit.out]
            omega
        | false =>
          by_cases hb : (s[pos]).toNat = 32 ∨ (s[pos]).toNat = 9 ∨ (s[pos]).toNat = 13
          · have I2 := hide (inv_blank Inv.out Hn.out hp hb)
            have cb : isBlk ((s[pos]).toNat : Int) = true := (isBlk_iff _).2 hb
            clear hb ha h10
            go_wp2_with (go_at_call 24; refine (blank_a _ _).mono ?_; rintro e w' ⟨rfl, rfl⟩)
            go_roundw
            case rel => exact ⟨pos + 1, line, ls, nx, false, acc, I2.out, rfl, rfl, rfl, rfl, hit2.out, own2.out, bw2.out⟩
            case measure =>
              simp only [World.iterPos, hit2.out, Hit.out]
              omega
          have cb : isBlk ((s[pos]).toNat : Int) = false := by
            rw [← Bool.not_eq_true, isBlk_iff]; exact hb
          by_cases h35 : (s[pos]).toNat = 35
          · have I2 := hide (inv_hash Inv.out Hn.out hp h35)
            have c35 : (((s[pos]).toNat : Int) == 35) = true := by simp [h35]
            clear hb ha h10 h35
            go_wp2_with (go_at_call 24; refine (blank_a _ _).mono ?_; rintro e w' ⟨rfl, rfl⟩)
            go_roundw
            case rel => exact ⟨pos + 1, line, ls, nx, true, acc, I2.out, rfl, rfl, rfl, rfl, hit2.out, own2.out, bw2.out⟩
            case measure =>
              simp only [World.iterPos, hit2.out, Hit.out]
              omega
          have c35 : (((s[pos]).toNat : Int) == 35) = false := by
            have : ¬ ((s[pos]).toNat : Int) = 35 := by omega
            simpa using this
          have Hc := hide (show ¬ (s[pos]).toNat = 10 ∧ ¬ (s[pos]).toNat = 32 ∧ ¬ (s[pos]).toNat = 9 ∧ ¬ (s[pos]).toNat = 13 ∧ ¬ (s[pos]).toNat = 35 by omega)
          clear hb ha h10 h35
          have T := hide (tail_size s pos)
          have hpI : (pos : Int) ≤ (s.size : Int) := by omega
          have B0 := G.out.1
          rcases hw : wordOf (s.extract pos s.size) with _ | ⟨k0, n0, v0⟩
          · have R := hide (inv_bad Inv.out Hn.out hp Hc.out hw)
            have W := hide hw
            have hls := Inv.out.h1
            clear hw
            go_wp2_with (first | (go_at_call 24; refine (blank_a _ _).mono ?_; rintro e w' ⟨rfl, rfl⟩) | (go_at_call 25; refine (wordAt_a _ _ (by rw [T.out]; omega) (by rw [T.out]; omega) (G.out.belowB bw2.out B0)).mono ?_; rintro e w1 ⟨⟨k, v, sx, b, rfl, hW1, hW2⟩, hb1⟩; obtain rfl : b = false := hW2 W.out; have HB1 := hide hb1; clear hb1 hW1 hW2))
            refine bodyPost_ret (v := .tuple #[.slice none 0 0, .int .i64 line, .int .i64 ((pos : Int) - ls + 1), .int .i64 10]) (by simp [results, Tryd.results10, go_sem]) rfl ⟨?_, ?_⟩
            · unfold ScanR
              rw [if_neg L.out]
              refine ⟨_, _, R.out, by have := Inv.out.h5; simp; omega, ?_⟩
              have e3 : ((pos - ls + 1 : Nat) : Int) = (pos : Int) - ls + 1 := by omega
              show Ending.returned _ = Ending.returned (.tuple #[.slice none 0 0, .int .i64 line, .int .i64 ((pos - ls + 1 : Nat) : Int), .int .i64 10])
              rw [e3]
            · exact (bw2.out.trans (HB1.out.mono bw2.out.size)).alloc (Nat.le_trans bw2.out.size HB1.out.size) _
          · obtain ⟨h7, hI⟩ := inv_tok Inv.out Hn.out hp Hc.out hw
            have I2 := hide hI
            have W := hide hw
            have hls := Inv.out.h1
            have hls2 := Inv.out.h5
            have E2 := hide (show (s.extract pos (pos + n0)).size = n0 by rw [ByteArray.size_extract]; omega)
            have hkm : acc.length + 1 ≤ maxLen := by unfold maxLen; omega
            have hone : ∀ (a b c d : Int) (x : ByteArray), ∀ u ∈ [Value.int .u8 a, .string x, .int .i64 b, .int .i64 c, .int .i64 d], u.oneCell' = true := by simp [Value.oneCell']
            have hsz2 : w.heap.size < (wr.iterAt w.heap.size s (pos + 1)).heap.size := (Array.getElem?_eq_some_iff.1 hit2.out).1
            clear hw hI
            go_wp2_with (first | (go_at_call 24; refine (blank_a _ _).mono ?_; rintro e w' ⟨rfl, rfl⟩) | (go_at_call 25; refine (wordAt_a _ _ (by rw [T.out]; omega) (by rw [T.out]; omega) (G.out.belowB bw2.out B0)).mono ?_; rintro e w1 ⟨⟨k, v, sx, b, rfl, hW1, hW2⟩, hb1⟩; obtain ⟨rfl, hsx, rfl, rfl⟩ := hW1 _ _ _ W.out; rw [ext_ext s pos n0 h7] at hsx; subst hsx; have HB1 := hide hb1; clear hb1 hW1 hW2) | (at_builtin; refine wpList_append_own _ rfl (.tmp 49) (.tmp 51) 23 rfl (w.heap.size + 1) 31 i0 tokZ 5 48 Tryd.underlying23 hi0 hz0 hz1 hz2 rfl (by decide) _ acc.length (toks acc) rfl ?ownn _ 1 1 [.int .u8 k, .string (s.extract pos (pos + n0)), .int .i64 v, .int .i64 line, .int .i64 ((pos : Int) - ls + 1)] rfl rfl ?cellss ?honee ?hkmm ?hbb ?hbasee ?goo))
            case ownn => exact own_below own2.out ((HB1.out.alloc HB1.out.size _).alloc (Nat.le_trans HB1.out.size (by simp)) _)
            case cellss =>
              intro j u hj
              have h5 := cells_blk (Blk.new (w1.alloc (.cells #[.int .u8 k, .string (s.extract pos (pos + n0)), .int .i64 v, .int .i64 line, .int .i64 ((pos : Int) - ls + 1)] 31)) 31 #[.int .u8 k, .string (s.extract pos (pos + n0)), .int .i64 v, .int .i64 line, .int .i64 ((pos : Int) - ls + 1)]) j u (by simpa using hj)
              simpa using h5
            case honee => exact hone _ _ _ _ _
            case hkmm => exact hkm
            case hbb => omega
            case hbasee =>
              have := HB1.out.size
              simp
              omega
            intro v' w2 hown' hgrow _
            obtain ⟨hit3, bw3, hc3⟩ := after_append hsz2 bw2.out own2.out HB1.out hgrow
            have c1 := hc3 1
            rw [World.cell?_alloc_at _ _ _ _ rfl] at c1
            simp only [List.getElem?_toArray, List.getElem?_cons_zero, List.getElem?_cons_succ] at c1
            have Hit3 := hide (hit3.trans hit2.out)
            have Bw3 := hide bw3
            have Own3 := hide hown'
            have E3 := E2.out
            clear hit3 bw3 hc3 hown' hgrow
            go_wp2_with fail
            go_roundw
            case rel =>
              have e3 : ((pos - ls + 1 : Nat) : Int) = (pos : Int) - ls + 1 := by omega
              refine ⟨pos + 1, line, ls, pos + n0, false, acc ++ [⟨k, s.extract pos (pos + n0), v, line, pos - ls + 1⟩], I2.out, rfl, rfl, by go_num, rfl, Hit3.out, ?_, Bw3.out⟩
              rw [toks_snoc]
              simp only [tokC, e3, List.length_append, List.length_cons, List.length_nil, Nat.zero_add]
              exact Own3.out
            case measure =>
              simp only [World.iterPos, Hit3.out, Hit.out]
              omega
      · have hnx : ∀ ty, (Instr.next (.pointer (some ⟨w.heap.size, 0, none⟩)) true ty).run Tryd.prog wr = _ := fun ty => Lib.run_next_any_at wr w.heap.size s pos ty Hit.out hp
        have hit2 := hide (Lib.iterAt_heap wr w.heap.size s pos (pos + (Utf8.decode s pos).2) Hit.out)
        have bw2 := hide (Lib.below_iterAt Bw.out (k := w.heap.size) (Nat.le_refl _) s (pos + (Utf8.decode s pos).2))
        have own2 := hide (own_iter Own.out s (pos + (Utf8.decode s pos).2))
        obtain ⟨hd1, hd2⟩ := decode_high s pos hp (by omega)
        have hd3 := decode_le s pos hp hd2
        by_cases hn : pos < nx
        · obtain ⟨h7, h8⟩ := Inv.out.h4 pos (Nat.le_refl _) hn
          exact absurd h8 ha
        have hn' : ¬ (pos : Int) < (nx : Int) := by omega
        have Hn := hide hn
        clear hn
        have c10 : (((Utf8.decode s pos).1 : Int) == 10) = false := by
          have : ¬ ((Utf8.decode s pos).1 : Int) = 10 := by omega
          simpa using this
        cases rm with
        | true =>
          have I2 := hide (inv_remark Inv.out (skip_rune hp (by omega)) (by omega) hd3)
          generalize Utf8.decode s pos = D at *
          go_wp2_with fail
          go_roundw
          case rel => exact ⟨pos + D.2, line, ls, nx, true, acc, I2.out, rfl, rfl, rfl, rfl, hit2.out, own2.out, bw2.out⟩
          case measure =>
            simp only [World.iterPos, hit2.out, Hit.out]
            omega
        | false =>
          have cb : isBlk ((Utf8.decode s pos).1 : Int) = false := by
            rw [← Bool.not_eq_true, isBlk_iff]; omega
          have c35 : (((Utf8.decode s pos).1 : Int) == 35) = false := by
            have : ¬ ((Utf8.decode s pos).1 : Int) = 35 := by omega
            simpa using this
          have Hc := hide (show ¬ (s[pos]).toNat = 10 ∧ ¬ (s[pos]).toNat = 32 ∧ ¬ (s[pos]).toNat = 9 ∧ ¬ (s[pos]).toNat = 13 ∧ ¬ (s[pos]).toNat = 35 by omega)
          have T := hide (tail_size s pos)
          have hpI : (pos : Int) ≤ (s.size : Int) := by omega
          have B0 := G.out.1
          have hw : wordOf (s.extract pos s.size) = none := by
            rcases h : wordOf (s.extract pos s.size) with _ | ⟨k0, n0, v0⟩
            · rfl
            · obtain ⟨a1, a2, a3⟩ := wordOf_ascii h
              obtain ⟨a4, a5⟩ := a3 0 a1
              rw [tail_get] at a5
              exact absurd (by simpa using a5) ha
          have R := hide (inv_bad Inv.out Hn.out hp Hc.out hw)
          have W := hide hw
          have hls := Inv.out.h1
          clear hw ha
          generalize Utf8.decode s pos = D at *
          go_wp2_with (first | (go_at_call 24; refine (blank_a _ _).mono ?_; rintro e w' ⟨rfl, rfl⟩) | (go_at_call 25; refine (wordAt_a _ _ (by rw [T.out]; omega) (by rw [T.out]; omega) (G.out.belowB bw2.out B0)).mono ?_; rintro e w1 ⟨⟨k, v, sx, b, rfl, hW1, hW2⟩, hb1⟩; obtain rfl : b = false := hW2 W.out; have HB1 := hide hb1; clear hb1 hW1 hW2))
          refine bodyPost_ret (v := .tuple #[.slice none 0 0, .int .i64 line, .int .i64 ((pos : Int) - ls + 1), .int .i64 10]) (by simp [results, Tryd.results10, go_sem]) rfl ⟨?_, ?_⟩
          · unfold ScanR
            rw [if_neg L.out]
            refine ⟨_, _, R.out, by have := Inv.out.h5; simp; omega, ?_⟩
            have e3 : ((pos - ls + 1 : Nat) : Int) = (pos : Int) - ls + 1 := by omega
            show Ending.returned _ = Ending.returned (.tuple #[.slice none 0 0, .int .i64 line, .int .i64 ((pos - ls + 1 : Nat) : Int), .int .i64 10])
            rw [e3]
          · exact (bw2.out.trans (HB1.out.mono bw2.out.size)).alloc (Nat.le_trans bw2.out.size HB1.out.size) _
    · have hnx : ∀ ty, (Instr.next (.pointer (some ⟨w.heap.size, 0, none⟩)) true ty).run Tryd.prog wr = _ := fun ty => Lib.run_next_end_at wr w.heap.size s pos ty Hit.out hp
      have R := hide (show ScanR s w.heap.size (.returned (.tuple #[u2, .int .i64 0, .int .i64 0, .int .i64 0])) wr by
        unfold ScanR
        rw [if_neg L.out]
        exact ⟨acc, none, inv_end Inv.out hp, by have := Inv.out.h5; have := Inv.out.hp; omega, u2, rfl, own_mono Own.out (by omega)⟩)
      go_wp2_with fail
      exact bodyPost_ret (v := .tuple #[u2, .int .i64 0, .int .i64 0, .int .i64 0]) (by simp [results, Tryd.results10, go_sem]) rfl ⟨R.out, Bw.out⟩
end Go.Proofs.YtekdchhengcfoaaDoor
