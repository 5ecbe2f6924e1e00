/- begin; the document's Clock and Depths. -/
import Derived.Test.YtflaikhkddjfjaaRows
import Derived.Test.YtflaikhkddjfjaaOrdJ
import Derived.BigQuiet
import Derived.OwnWalk
import Derived.LoopN
namespace Go.Proofs.Ytflaikhkddjfjaa
open Go Go.RowKit
set_option linter.unusedVariables false
set_option linter.unusedSimpArgs false
namespace Ord
structure Both (n len : Nat) (F : Nat → Ec) (w : World) (D o o' : Nat) (es : List Eo) (gs : List Nat) : Prop where
  a : OrA w o D D es
  s : Sound n (evN F) es
  el : es.length = len
  b : Rf w o' D n len (evN F) gs
  gl : gs.length = len
  n1 : 1 ≤ n
  n64 : n ≤ 64
  ok : okTo n F len
  fit : Fit n es
theorem Both.below {n len : Nat} {F : Nat → Ec} {w w' : World} {D o o' : Nat} {es : List Eo} {gs : List Nat} (h : Both n len F w D o o' es gs) (hb : Below w.heap.size w w') : Both n len F w' D o o' es gs :=
  ⟨h.a.below hb, h.s, h.el, h.b.below hb, h.gl, h.n1, h.n64, h.ok, h.fit⟩
set_option maxRecDepth 100000 in
set_option maxHeartbeats 4000000 in
theorem begin_c (ni : Int) (A : Option Addr) (len cap : Nat) (F : Nat → Ec) (w : World) (hlen : len ≤ maxLen) (h : Evs w A len F) (hs : Small F len) :
    Calls Try.prog 10 #[.int .i64 ni, .slice A len cap] w fun e w' => ((e = .returned (.tuple #[.pointer none, .pointer none, .bool true])) ∨ ∃ (o o' : Nat) (es : List Eo) (gs : List Nat), e = .returned (.tuple #[.pointer (some ⟨o, 0, none⟩), .pointer (some ⟨o', 0, none⟩), .bool true]) ∧ Both ni.toNat len F w' w.heap.size o o' es gs ∧ len ≤ 120) ∧ Below w.heap.size w w' := by
  have OC := hide (Of_c ni A len cap F w hlen h hs)
  have RC := hide (fun (w' : World) (hb : Below w.heap.size w w') => refOf_c ni A len cap F w' hlen (h.below hb) hs)
  have SM : Hid (Good ni F len → len ≤ 120) := hide (fun hg => by
    rcases hs with hs | hs
    · exact hs.1
    · have := hg.2.2.1; omega)
  clear h hs
  go_enter Try.func10, Try.ntmps10
  go_wp2_with fail
  refine OC.out.mono ?_
  rintro e w1 ⟨h1, hb1⟩
  have RC1 := hide (RC.out w1 hb1)
  have HB1 := hide hb1
  clear hb1
  rcases h1 with ⟨rfl, hno⟩ | ⟨o, es, rfl, hg, _, ho, hgr, hel⟩
  · have HNO := hide hno
    clear hno
    go_wp2_with fail
    refine RC1.out.mono ?_
    rintro e w2 ⟨h2, hb2⟩
    have HB2 := hide (HB1.out.trans (hb2.mono HB1.out.size))
    clear hb2
    rcases h2 with ⟨rfl, _⟩ | ⟨_, _, _, hg, _⟩
    · go_wp2_with fail
      go_ret3
      exact ⟨.inl rfl, HB2.out⟩
    · exact absurd hg HNO.out
  · have HG := hide hg
    have HOO := hide (And.intro ho (And.intro hgr hel))
    clear ho hgr hel hg
    go_wp2_with fail
    refine RC1.out.mono ?_
    rintro e w2 ⟨h2, hb2⟩
    have HB2 := hide (HB1.out.trans (hb2.mono HB1.out.size))
    rcases h2 with ⟨rfl, hno⟩ | ⟨o', gs, rfl, _, hrf, hgl⟩
    · exact absurd HG.out hno
    have FIN : Hid (Both ni.toNat len F w2 w.heap.size o o' es gs ∧ len ≤ 120) := hide (by
      obtain ⟨ho, hgr, hel⟩ := HOO.out
      have hg := HG.out
      have h1 : 1 ≤ ni.toNat := by have := hg.1; omega
      have h2 : ni.toNat ≤ 64 := by have := hg.2.1; omega
      have hl := SM.out hg
      refine ⟨⟨ho.below hb2, hgr.sound h1 h2 (by omega), hel, ⟨?_, fun i hi => (hrf.rows i hi).more HB1.out.size⟩, hgl, h1, h2, ?_, hgr.fit h1 h2 (by omega)⟩, hl⟩
      · obtain ⟨R, rc, A, ac, b, o1, o2⟩ := hrf.tab
        exact ⟨R, rc, A, ac, b, own_more o1 HB1.out.size, own_more o2 HB1.out.size⟩
      · have := hg.2.2.2
        rwa [show ((ni.toNat : Nat) : Int) = ni from Int.toNat_of_nonneg (by have := hg.1; omega)])
    clear hb2 hrf hgl
    go_wp2_with fail
    go_ret3
    exact ⟨.inr ⟨o, o', es, gs, rfl, FIN.out⟩, HB2.out⟩
/-- A clock by the rows. -/
noncomputable def clkL (n : Nat) (E : Nat → Ev) (i k : Nat) : List Int := (List.range n).map fun q => ((cnt E q (ahB E i) k + (if (E i).r = q then 1 else 0) : Nat) : Int)
theorem clkL_len (n : Nat) (E : Nat → Ev) (i k : Nat) : (clkL n E i k).length = n := by simp [clkL]
theorem clkL_at {n : Nat} {E : Nat → Ev} {i k q : Nat} (h : q < n) : (clkL n E i k).getD q 0 = ((cnt E q (ahB E i) k + (if (E i).r = q then 1 else 0) : Nat) : Int) := by
  rw [List.getD_eq_getElem?_getD, clkL, List.getElem?_map, List.getElem?_range h]
  rfl
theorem list_ext {l m : List Int} (hl : l.length = m.length) (h : ∀ j < l.length, l.getD j 0 = m.getD j 0) : l = m := by
  refine List.ext_getElem hl fun j h1 h2 => ?_
  have := h j h1
  simpa [List.getD_eq_getElem?_getD, List.getElem?_eq_getElem h1, List.getElem?_eq_getElem h2] using this
theorem getD_set (l : List Int) (k j : Nat) (x : Int) (hk : k < l.length) : (l.set k x).getD j 0 = if k = j then x else l.getD j 0 := by
  rw [List.getD_eq_getElem?_getD, List.getElem?_set]
  by_cases e : k = j
  · subst e; rw [if_pos rfl, if_pos rfl, if_pos hk]; rfl
  · rw [if_neg e, if_neg e, List.getD_eq_getElem?_getD]
theorem clkL_start {n : Nat} {E : Nat → Ev} {i : Nat} (h : (E i).r < n) : (List.replicate n (0 : Int)).set (E i).r 1 = clkL n E i 0 := by
  refine list_ext (by simp [clkL_len]) fun j hj => ?_
  have hjn : j < n := by simpa using hj
  rw [getD_set _ _ _ _ (by simpa using h), clkL_at hjn, cnt_zero]
  by_cases e : (E i).r = j
  · simp [e]
  · rw [if_neg e, if_neg e, List.getD_eq_getElem?_getD, List.getElem?_replicate, if_pos hjn]
    rfl
theorem clkL_yes {n : Nat} {E : Nat → Ev} {i k : Nat} (h : (E k).r < n) (ha : ahB E i k = true) : (clkL n E i k).set (E k).r ((clkL n E i k).getD (E k).r 0 + 1) = clkL n E i (k + 1) := by
  refine list_ext (by simp [clkL_len]) fun j hj => ?_
  have hjn : j < n := by simpa [clkL_len] using hj
  rw [getD_set _ _ _ _ (by rw [clkL_len]; exact h), clkL_at hjn, clkL_at hjn, clkL_at h, cnt_succ]
  by_cases e : (E k).r = j
  · subst e
    rw [if_pos rfl, if_pos (show (E k).r = (E k).r ∧ ahB E i k = true from ⟨rfl, ha⟩)]
    omega
  · rw [if_neg e, if_neg (show ¬ ((E k).r = j ∧ ahB E i k = true) from fun h => e h.1)]
    rfl
theorem clkL_no {n : Nat} {E : Nat → Ev} {i k : Nat} (ha : ahB E i k = false) : clkL n E i k = clkL n E i (k + 1) := by
  refine list_ext (by simp [clkL_len]) fun j hj => ?_
  have hjn : j < n := by simpa [clkL_len] using hj
  rw [clkL_at hjn, clkL_at hjn, cnt_succ, if_neg (show ¬ ((E k).r = j ∧ ahB E i k = true) from fun h => by rw [ha] at h; cases h.2)]
  rfl
set_option maxRecDepth 100000 in
set_option maxHeartbeats 4000000 in
theorem refClock_c (n len o B i : Nat) (E : Nat → Ev) (gs : List Nat) (w : World) (hf : Rf w o B n len E gs) (hgl : gs.length = len) (hl : len ≤ 120) (hn1 : 1 ≤ n) (hn2 : n ≤ 64) (hr : ∀ k, k < len → (E k).r < n) (hi : i < len) :
    Calls Try.prog 14 #[.pointer (some ⟨o, 0, none⟩), .int .i64 i] w fun e w' => ∃ v, e = .returned v ∧ w'.ownsRow w.heap.size 3 1 v n (ints (clkL n E i len)) ∧ Below w.heap.size w w' := by
  subst hgl
  have hmk := run_make_row' (P := Try.prog) 28 3 (.int .i64 0) 8 Try.underlying28 int_info rfl .i64 .i64 n (by omega) (by omega) w
  have hb1 := (Below.refl w.heap.size w).alloc (Nat.le_refl _) (.cells (madeCells #[Value.int .i64 0] n) 3)
  have orow := OwnRow.made w n (by unfold maxLen; omega)
  have hw1' : w.alloc (.cells (madeCells #[Value.int .i64 0] n) 3) = w.alloc (.cells (madeCells #[Value.int .i64 0] n) 3) := rfl
  rw [hw1'] at orow
  have HF := hide hf
  have HRR := hide hr
  obtain ⟨g, rc, A2, ac, b, cr⟩ := hf.rank hi
  have b0 := b.cell 0
  have b1 := b.cell 1
  simp only [List.getElem?_toArray, List.getElem?_cons_succ, List.getElem?_cons_zero] at b0 b1
  obtain ⟨w1, hw1⟩ : ∃ x, w.alloc (.cells (madeCells #[Value.int .i64 0] n) 3) = x := ⟨_, rfl⟩
  rw [hw1] at hb1 orow hmk
  have hri := hr i hi
  have HRI := hide hri
  have hoc := orow.cell (E i).r (by simpa using hri)
  have hof := orow.frozen (E i).r
  have os := orow.set_ (E i).r 1
  rw [clkL_start hri] at os
  have OS := hide os
  have HB2 := hide (hb1.setCell (p := ⟨w.heap.size, (E i).r, none⟩) (Nat.le_refl _) (.int .i64 1))
  have b1' := (hb1.cell (p := ⟨o, 1, none⟩) b.lt).trans b1
  have cr' := (hb1.cell (p := ⟨g, i, none⟩) (block_lt_of_cell cr)).trans cr
  have hrI : ((E i).r : Int) < (n : Int) := by omega
  have hiI : (i : Int) < (gs.length : Int) := by omega
  clear hf hr b hb1 orow os hw1' cr b1
  generalize hri' : (E i).r = r at *
  clear hri'
  go_enter Try.func14, Try.ntmps14
  go_wp2_with fail
  clear hw1 hmk hoc hof b1' cr' b0
  go_loopw [6] (fun vi wr => ∃ k : Nat, k ≤ gs.length ∧ vi = .int .i64 k ∧ Hid (OwnRow wr w.heap.size w.heap.size n (clkL n E i k)) ∧ Hid (Below w.heap.size w wr)) (fun vi _ => gs.length - (intOf vi).toNat)
  case atStart => exact ⟨0, by omega, rfl, OS, HB2⟩
  case round =>
    clear OS HB2
    obtain ⟨k, hk, rfl, OW, HB⟩ := hrel
    obtain ⟨R, rc2, gA, ac2, b, cg, brow⟩ := (HF.out.below HB.out).row hi
    have b1 := b.cell 1
    have b2 := b.cell 2
    simp only [List.getElem?_toArray, List.getElem?_cons_succ, List.getElem?_cons_zero] at b1 b2
    by_cases hlt : k < gs.length
    rotate_left
    · have hltI : ¬ (k : Int) < (gs.length : Int) := by omega
      obtain rfl : k = gs.length := by omega
      have FIN : Hid (wr.ownsRow w.heap.size 3 1 (.slice (some ⟨w.heap.size, 0, none⟩) n n) n (ints (clkL n E i gs.length))) := hide (by
        have := OW.out.owned
        unfold Owned at this
        rw [clkL_len] at this
        exact this)
      go_wp2_with fail
      go_ret
      exact ⟨_, rfl, FIN.out, HB.out⟩
    have hltI : (k : Int) < (gs.length : Int) := by omega
    have ca := brow.cell hlt
    cases hab : ahB E i k with
    | false =>
      have OW2 := hide (clkL_no hab ▸ OW.out)
      rw [hab] at ca
      clear hab b brow
      go_wp2_with fail
      go_roundw
      case rel => exact ⟨k + 1, by omega, by go_num, OW2, HB⟩
      case measure => simp [intOf] <;> omega
    | true =>
      obtain ⟨g3, rc3, A3, ac3, b3, cr3⟩ := (HF.out.below HB.out).rank hlt
      have b31 := b3.cell 1
      simp only [List.getElem?_toArray, List.getElem?_cons_succ, List.getElem?_cons_zero] at b31
      have eR := b31.symm.trans b1
      injection eR with eR
      injection eR with eR _ _
      subst eR
      have hrk := HRR.out k hlt
      have oc := OW.out.cell (E k).r (by rw [clkL_len]; exact hrk)
      have of := OW.out.frozen (E k).r
      have OW2 := hide (clkL_yes hrk hab ▸ OW.out.set_ (E k).r ((clkL n E i k).getD (E k).r 0 + 1))
      have HB3 := hide (HB.out.setCell (p := ⟨w.heap.size, (E k).r, none⟩) (Nat.le_refl _) (.int .i64 ((clkL n E i k).getD (E k).r 0 + 1)))
      have hz : 0 ≤ (clkL n E i k).getD (E k).r 0 ∧ (clkL n E i k).getD (E k).r 0 ≤ 200 := by
        rw [clkL_at hrk]
        have := cnt_le (E := E) (E k).r (ahB E i) k
        split <;> omega
      have hrkI : ((E k).r : Int) < (n : Int) := by omega
      rw [hab] at ca
      clear hab b brow b3 b31
      generalize (clkL n E i k).getD (E k).r 0 = z at *
      generalize (E k).r = rk at *
      go_wp2_with fail
      go_roundw
      case rel => exact ⟨k + 1, by omega, by go_num, OW2, HB3⟩
      case measure => simp [intOf] <;> omega
end Ord
end Go.Proofs.Ytflaikhkddjfjaa
