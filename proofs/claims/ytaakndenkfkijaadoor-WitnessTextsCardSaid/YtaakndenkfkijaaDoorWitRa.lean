/- What a word is read as: the program's read. -/
import Derived.Test.YtaakndenkfkijaaDoorRows
import Derived.Test.YtaakndenkfkijaaDoorWitA
import Derived.Test.YtaakndenkfkijaaDoorWitO
import Derived.Test.YtaakndenkfkijaaDoorWitNb
import Derived.Deep.CutRange
namespace Go.Proofs.YtaakndenkfkijaaDoor
open Go.RowKit
open Go.Lib (itoa atoiAll)
set_option linter.unusedVariables false
set_option linter.unusedSimpArgs false
namespace Wit
theorem spl_le (b : UInt8) : ∀ (s cur : List UInt8), ∀ p ∈ spl b cur s, p.length ≤ cur.length + s.length
  | [], cur, p, h => by
    rw [spl] at h
    rw [List.mem_singleton.1 h]
    simp
  | x :: s, cur, p, h => by
    rw [spl] at h
    split at h
    · rcases List.mem_cons.1 h with h | h
      · rw [h]; simp
      · have := spl_le b s [] p h
        simp at this ⊢
        omega
    · have := spl_le b s _ p h
      simp at this ⊢
      omega
theorem spl_cnt (b : UInt8) : ∀ (s cur : List UInt8), (spl b cur s).length ≤ s.length + 1
  | [], cur => by simp [spl]
  | x :: s, cur => by
    rw [spl]
    split
    · have := spl_cnt b s []
      simp
      omega
    · have := spl_cnt b s (cur ++ [x])
      simp
      omega
theorem numsA_snoc : ∀ (l : List (List UInt8)) (p : List UInt8) (z : Int), atoiAll p = .ok z → numsA (l ++ [p]) = match numsA l with | some r => some (r ++ [z]) | none => none
  | [], p, z, h => by
    simp only [List.nil_append, numsA, h]
  | q :: l, p, z, h => by
    have ih := numsA_snoc l p z h
    rw [List.cons_append, numsA, numsA, ih]
    rcases atoiAll q with v | _ | _
    · simp only; cases numsA l <;> rfl
    · rfl
    · rfl
theorem numsA_no : ∀ (l : List (List UInt8)) (i : Nat) (h : i < l.length), (∀ v, atoiAll l[i] ≠ .ok v) → numsA l = none
  | q :: l, 0, _, hn => by
    simp only [List.getElem_cons_zero] at hn
    rw [numsA]
    rcases hc : atoiAll q with v | _ | _
    · exact absurd hc (hn v)
    · rfl
    · rfl
  | q :: l, i + 1, h, hn => by
    have ih := numsA_no l i (by simpa using h) hn
    rw [numsA, ih]
    cases atoiAll q <;> rfl
theorem numsA_take {l : List (List UInt8)} {i : Nat} (h : i < l.length) {L : List Int} {z : Int} (hL : numsA (l.take i) = some L) (hz : atoiAll l[i] = .ok z) : numsA (l.take (i + 1)) = some (L ++ [z]) := by
  rw [List.take_succ_eq_append_getElem h, numsA_snoc _ _ z hz, hL]
def five (L : List Int) : Array Value := #[.int .i64 (L.getD 0 0), .int .i64 (L.getD 1 0), .int .i64 (L.getD 2 0), .int .i64 (L.getD 3 0), .int .i64 (L.getD 4 0)]
theorem five_set {L : List Int} {i : Nat} (h : L.length = i) (hi : i < 5) (z : Int) : (five L).setIfInBounds i (.int .i64 z) = five (L ++ [z]) := by
  subst h
  match L, hi with
  | [], _ => rfl
  | [a], _ => rfl
  | [a, b], _ => rfl
  | [a, b, c], _ => rfl
  | [a, b, c, d], _ => rfl
  | a :: b :: c :: d :: e :: r, h => simp at h; omega
theorem five_at {L : List Int} {i : Nat} (hi : i < 5) : (five L)[i]? = some (.int .i64 (L.getD i 0)) := by
  match i, hi with
  | 0, _ => rfl
  | 1, _ => rfl
  | 2, _ => rfl
  | 3, _ => rfl
  | 4, _ => rfl
def pk0 : Pk := ⟨0, 0, 0, 0, 0, 0⟩
def RdR (x : Option Pk) : Value := match x with
  | some p => .tuple #[.agg (pkC p), .bool true]
  | none => .tuple #[.agg (pkC pk0), .bool false]
theorem set6 {w : World} {g : Nat} {t : TypeId} {a0 a1 a2 a3 a4 a5 : Value} (h : Blk w g t #[a0, a1, a2, a3, a4, a5]) (x0 x1 x2 x3 x4 x5 : Value) :
    Blk ((((((w.setCell ⟨g, 0, none⟩ x0).setCell ⟨g, 1, none⟩ x1).setCell ⟨g, 2, none⟩ x2).setCell ⟨g, 3, none⟩ x3).setCell ⟨g, 4, none⟩ x4).setCell ⟨g, 5, none⟩ x5) g t #[x0, x1, x2, x3, x4, x5] :=
  (((((h.set_ 0 x0).set_ 1 x1).set_ 2 x2).set_ 3 x3).set_ 4 x4).set_ 5 x5
theorem below6 {w0 w : World} {B g : Nat} (h : Below B w0 w) (hg : B ≤ g) (x0 x1 x2 x3 x4 x5 : Value) :
    Below B w0 ((((((w.setCell ⟨g, 0, none⟩ x0).setCell ⟨g, 1, none⟩ x1).setCell ⟨g, 2, none⟩ x2).setCell ⟨g, 3, none⟩ x3).setCell ⟨g, 4, none⟩ x4).setCell ⟨g, 5, none⟩ x5) :=
  (((((h.setCell (p := ⟨g, 0, none⟩) hg x0).setCell (p := ⟨g, 1, none⟩) hg x1).setCell (p := ⟨g, 2, none⟩) hg x2).setCell (p := ⟨g, 3, none⟩) hg x3).setCell (p := ⟨g, 4, none⟩) hg x4).setCell (p := ⟨g, 5, none⟩) hg x5
theorem pkA_len {s a : List UInt8} {ws : List (List UInt8)} (h : spl 46 [] s = a :: ws) (hl : 5 < ws.length) : pkA s = none := by
  unfold pkA; rw [h]; simp only; rw [if_pos hl]
theorem pkA_none {s a : List UInt8} {ws : List (List UInt8)} (h : spl 46 [] s = a :: ws) (hn : numsA ws = none) : pkA s = none := by
  unfold pkA; rw [h]; simp only; rw [hn]; split <;> rfl
theorem pkA_some {s a : List UInt8} {ws : List (List UInt8)} {L : List Int} (h : spl 46 [] s = a :: ws) (hl : ¬ 5 < ws.length) (hn : numsA ws = some L) : pkA s = mkA a L := by
  unfold pkA; rw [h]; simp only; rw [if_neg hl, hn]
theorem lit_beq (x y : List UInt8) : ((bytes x).toList == y) = decide (x = y) := by
  rw [ByteArray.toList_eq]
  have : (bytes x).data.toList = x := by simp [bytes]
  rw [this, Bool.eq_iff_iff]
  simp
theorem int_infoW : (Tryd.prog.info? 3).map (fun i => (i.zero, i.size, i.bytes)) = some (some (.int .i64 0), 1, 8) := by kernel_rfl
theorem mk5 (W : World) : (Instr.makeSlice 58 (.int .i64 5) (.int .i64 5)).run Tryd.prog W = .ok (.slice (some ⟨W.heap.size, 0, none⟩) 5 5) (W.alloc (.cells #[.int .i64 0, .int .i64 0, .int .i64 0, .int .i64 0, .int .i64 0] 3)) := by
  obtain ⟨i0, hi0, hz0, hz1, hz2⟩ := info_parts int_infoW
  have h := run_make_rowN (P := Tryd.prog) 58 3 i0 (.int .i64 0) Tryd.underlying58 hi0 hz0 .i64 .i64 5 5 (by omega) (by rw [hz2]; omega) (by omega) W
  rw [hz1] at h
  have e : madeCells (Value.int .i64 0).cells (5 * 1) = #[.int .i64 0, .int .i64 0, .int .i64 0, .int .i64 0, .int .i64 0] := by first | rfl | kernel_rfl | decide
  rw [e] at h
  exact h
set_option maxRecDepth 100000 in
set_option maxHeartbeats 4000000 in
theorem read_a (s : ByteArray) (w : World) (hs : s.size ≤ 100000) (he : Env w) :
    Calls Tryd.prog 16 #[.string s] w fun e w' => e = .returned (RdR (pkA s.data.toList)) ∧ Below w.heap.size w w' := by
  have hSl : s.data.toList.length = s.size := by simp
  obtain ⟨a, ws, hsp⟩ := spl_pos 46 s.data.toList []
  have hcn := spl_cnt 46 s.data.toList []
  have hle := spl_le 46 s.data.toList []
  obtain ⟨m, hmm⟩ : ∃ m, ws.length = m := ⟨_, rfl⟩
  have SPL : Hid (∀ w', Env w' → Calls Tryd.prog 15 #[.string s, .string ⟨#[46]⟩] w' fun e w'' => e = .returned (.slice (some ⟨w'.heap.size, 0, none⟩) (m + 1) (m + 1)) ∧ w'' = w'.alloc (.cells ((a :: ws).map fun l => Value.string (bytes l)).toArray 9)) := hide fun w' h' => by
    have := split_a 46 s w' h' (by omega)
    rw [hsp] at this
    rw [← hmm]
    exact this
  rw [hsp] at hcn hle
  rw [hSl] at hcn hle
  simp only [List.length_cons, List.length_nil, Nat.zero_add] at hcn hle
  have NO5 := hide (fun h => pkA_len hsp h)
  have NON := hide (fun h => pkA_none hsp h)
  have YES := hide (fun L h h2 => @pkA_some _ _ _ L hsp h h2)
  have HLE := hide hle
  generalize pkA s.data.toList = res at *
  obtain ⟨PC, hPC⟩ : ∃ PC, PC = ((a :: ws).map fun l => Value.string (bytes l)).toArray := ⟨_, rfl⟩
  have PC0 : PC[0]? = some (.string (bytes a)) := by rw [hPC]; rfl
  have PCS : Hid (∀ i (h : i < ws.length), PC[1 + i]? = some (.string (bytes ws[i]))) := hide fun i hi => by
    rw [hPC, Nat.add_comm]
    simp [hi]
  rw [← hPC] at SPL
  have hm : m ≤ 100000 := by omega
  have HM := hide hmm
  -- the blocks: the result, the parts, the numbers
  have hb1 := (Below.refl w.heap.size w).alloc (Nat.le_refl _) (.cells (pkC pk0) 39)
  have HE1 := hide (he.below hb1 (Nat.le_refl _))
  have k1 := Blk.new w 39 (pkC pk0)
  have s1 : (w.alloc (.cells (pkC pk0) 39)).heap.size = w.heap.size + 1 := by simp
  simp only [pkC, pk0] at hb1 HE1 k1 s1
  have HB1 := hide hb1
  have K1 := hide k1
  have S1 := hide s1
  have HE := hide he
  clear hSl hsp hcn hle hPC hmm hb1 k1 s1 he
  go_enter Tryd.func16, Tryd.ntmps16
  go_wp2_with fail
  generalize w.alloc (.cells #[.int .u8 0, .int .i64 0, .int .i64 0, .int .i64 0, .int .i64 0, .int .i64 0] 39) = W1 at *
  refine (SPL.out _ HE1.out).mono ?_
  rintro e w2 ⟨rfl, hw2⟩
  rw [S1.out]
  have hb2 := (Below.refl W1.heap.size W1).alloc (Nat.le_refl _) (.cells PC 9)
  have k2 := K1.out.alloc (.cells PC 9)
  have q2 := Blk.new W1 9 PC
  have s2 : (W1.alloc (.cells PC 9)).heap.size = W1.heap.size + 1 := by simp
  rw [← hw2] at hb2 k2 q2 s2
  rw [S1.out] at q2 s2
  have s2' : w2.heap.size = w.heap.size + 1 + 1 := s2
  have HB2 := hide (HB1.out.trans (hb2.mono HB1.out.size))
  have K2 := hide k2
  have Q2 := hide q2
  clear hw2 hb2 k2 q2 s2 SPL
  have MK := mk5 w2
  rw [s2'] at MK
  have b3 := K2.out.alloc (.cells #[.int .i64 0, .int .i64 0, .int .i64 0, .int .i64 0, .int .i64 0] 3)
  have p3 := Q2.out.alloc (.cells #[.int .i64 0, .int .i64 0, .int .i64 0, .int .i64 0, .int .i64 0] 3)
  have n3 := Blk.new w2 3 #[.int .i64 0, .int .i64 0, .int .i64 0, .int .i64 0, .int .i64 0]
  have hb3 := HB2.out.alloc (by omega) (.cells #[.int .i64 0, .int .i64 0, .int .i64 0, .int .i64 0, .int .i64 0] 3)
  have s3 : (w2.alloc (.cells #[.int .i64 0, .int .i64 0, .int .i64 0, .int .i64 0, .int .i64 0] 3)).heap.size = w.heap.size + 1 + 1 + 1 := by rw [← s2']; simp
  rw [s2'] at n3
  generalize w2.alloc (.cells #[.int .i64 0, .int .i64 0, .int .i64 0, .int .i64 0, .int .i64 0] 3) = W3 at *
  have HB3 := hide hb3
  have K3 := hide b3
  have Q3 := hide p3
  have N3 := hide n3
  clear b3 p3 n3 hb3 HB2 K2 Q2 HB1 K1
  by_cases h5 : 5 < m
  · have R := NO5.out (by rw [HM.out]; exact h5)
    subst R
    have h5I : (1 : Int) + 5 < (m : Int) + 1 := by omega
    have h5J : (6 : Int) < (m : Int) + 1 := by omega
    clear h5
    have K5 := K3.out
    have f0 := K5.frozen 0
    have f1 := K5.frozen 1
    have f2 := K5.frozen 2
    have f3 := K5.frozen 3
    have f4 := K5.frozen 4
    have f5 := K5.frozen 5
    have d0 := K5.cell 0
    have d1 := K5.cell 1
    have d2 := K5.cell 2
    have d3 := K5.cell 3
    have d4 := K5.cell 4
    have d5 := K5.cell 5
    simp only [List.getElem?_toArray, List.getElem?_cons_zero, List.getElem?_cons_succ] at d0 d1 d2 d3 d4 d5
    clear K5
    go_wp2_with fail
    have K6 := set6 K3.out (.int .u8 0) (.int .i64 0) (.int .i64 0) (.int .i64 0) (.int .i64 0) (.int .i64 0)
    have HB6 := hide (below6 (g := w.heap.size) HB3.out (Nat.le_refl _) (.int .u8 0) (.int .i64 0) (.int .i64 0) (.int .i64 0) (.int .i64 0) (.int .i64 0))
    generalize ((((((W3.setCell ⟨w.heap.size, 0, none⟩ (.int .u8 0)).setCell ⟨w.heap.size, 1, none⟩ (.int .i64 0)).setCell ⟨w.heap.size, 2, none⟩ (.int .i64 0)).setCell ⟨w.heap.size, 3, none⟩ (.int .i64 0)).setCell ⟨w.heap.size, 4, none⟩ (.int .i64 0)).setCell ⟨w.heap.size, 5, none⟩ (.int .i64 0)) = W6 at *
    have r0 := K6.cell 0
    have r1 := K6.cell 1
    have r2 := K6.cell 2
    have r3 := K6.cell 3
    have r4 := K6.cell 4
    have r5 := K6.cell 5
    simp only [List.getElem?_toArray, List.getElem?_cons_zero, List.getElem?_cons_succ] at r0 r1 r2 r3 r4 r5
    exact bodyPost_ret (v := .tuple #[.agg #[.int .u8 0, .int .i64 0, .int .i64 0, .int .i64 0, .int .i64 0, .int .i64 0], .bool false]) (by simp [results, Tryd.results16, go_sem, r0, r1, r2, r3, r4, r5]) rfl ⟨by rfl, by first | exact HB6.out | exact HB6.out.drew⟩
  have h5I : ¬ (1 : Int) + 5 < (m : Int) + 1 := by omega
  have h5J : ¬ (6 : Int) < (m : Int) + 1 := by omega
  have h1I : (1 : Int) ≤ (m : Int) + 1 := by omega
  have h05 : Hid (¬ 5 < ws.length) := hide (by rw [HM.out]; exact h5)
  clear h5
  by_cases m0 : m = 0
  · subst m0
    go_wp2_with fail
    go_loopw [23] (fun vi wr => vi = .int .i64 0 ∧ Hid (Below w.heap.size w wr) ∧ Hid (Blk wr w.heap.size 39 #[.int .u8 0, .int .i64 0, .int .i64 0, .int .i64 0, .int .i64 0, .int .i64 0]) ∧ Hid (Blk wr (w.heap.size + 1) 9 PC) ∧ Hid (Blk wr (w.heap.size + 1 + 1) 3 (five []))) (fun vi _ => 0)
    case atStart => exact ⟨rfl, HB3, K3, Q3, N3⟩
    case round =>
      obtain ⟨rfl, HB, K, Q, N⟩ := hrel
      have q0 : wr.cell? ⟨w.heap.size + 1, 0, none⟩ = some (.string (bytes a)) := (Q.out.cell 0).trans PC0
      obtain ⟨L, hL⟩ : ∃ L : List Int, L = [] := ⟨_, rfl⟩
      rw [← hL] at N
      have HG2 : numsA ws = some L := by rw [hL, List.eq_nil_of_length_eq_zero HM.out]; rfl
      have RR := YES.out L h05.out HG2
      have n0 := (N.out.cell 0).trans (five_at (by omega))
      have n1 := (N.out.cell 1).trans (five_at (by omega))
      have n2 := (N.out.cell 2).trans (five_at (by omega))
      have n3 := (N.out.cell 3).trans (five_at (by omega))
      have n4 := (N.out.cell 4).trans (five_at (by omega))
      unfold mkA at RR
      have lb := lit_beq a
      clear HG2
      generalize L.getD 0 0 = z0 at *
      generalize L.getD 1 0 = z1 at *
      generalize L.getD 2 0 = z2 at *
      generalize L.getD 3 0 = z3 at *
      generalize L.getD 4 0 = z4 at *
      have gI := hide (lb [103])
      have mI := hide (lb [109])
      have aI := hide (lb [97])
      clear lb
      generalize bytes a = ab at *
      by_cases hg : a = [103]
      · rw [if_pos hg] at RR
        subst RR
        have g1 : (ab.toList == [103]) = true := by rw [gI.out]; exact decide_eq_true hg
        clear hg
        have K5 := K.out
        have f0 := K5.frozen 0
        have f1 := K5.frozen 1
        have f2 := K5.frozen 2
        have f3 := K5.frozen 3
        have f4 := K5.frozen 4
        have f5 := K5.frozen 5
        have d0 := K5.cell 0
        have d1 := K5.cell 1
        have d2 := K5.cell 2
        have d3 := K5.cell 3
        have d4 := K5.cell 4
        have d5 := K5.cell 5
        simp only [List.getElem?_toArray, List.getElem?_cons_zero, List.getElem?_cons_succ] at d0 d1 d2 d3 d4 d5
        clear K5
        go_wp2_with fail
        have K6 := set6 K.out (.int .u8 1) (.int .i64 z0) (.int .i64 0) (.int .i64 0) (.int .i64 0) (.int .i64 0)
        have HB6 := hide (below6 (g := w.heap.size) HB.out (Nat.le_refl _) (.int .u8 1) (.int .i64 z0) (.int .i64 0) (.int .i64 0) (.int .i64 0) (.int .i64 0))
        generalize ((((((wr.setCell ⟨w.heap.size, 0, none⟩ (.int .u8 1)).setCell ⟨w.heap.size, 1, none⟩ (.int .i64 z0)).setCell ⟨w.heap.size, 2, none⟩ (.int .i64 0)).setCell ⟨w.heap.size, 3, none⟩ (.int .i64 0)).setCell ⟨w.heap.size, 4, none⟩ (.int .i64 0)).setCell ⟨w.heap.size, 5, none⟩ (.int .i64 0)) = W6 at *
        have r0 := K6.cell 0
        have r1 := K6.cell 1
        have r2 := K6.cell 2
        have r3 := K6.cell 3
        have r4 := K6.cell 4
        have r5 := K6.cell 5
        simp only [List.getElem?_toArray, List.getElem?_cons_zero, List.getElem?_cons_succ] at r0 r1 r2 r3 r4 r5
        exact bodyPost_ret (v := .tuple #[.agg #[.int .u8 1, .int .i64 z0, .int .i64 0, .int .i64 0, .int .i64 0, .int .i64 0], .bool true]) (by simp [results, Tryd.results16, go_sem, r0, r1, r2, r3, r4, r5]) rfl ⟨by rfl, by first | exact HB6.out | exact HB6.out.drew⟩
      have g1 : (ab.toList == [103]) = false := by rw [gI.out]; exact decide_eq_false hg
      rw [if_neg hg] at RR
      by_cases hg2 : a = [109]
      · rw [if_pos hg2] at RR
        subst RR
        have g2 : (ab.toList == [109]) = true := by rw [mI.out]; exact decide_eq_true hg2
        clear hg hg2
        have K5 := K.out
        have f0 := K5.frozen 0
        have f1 := K5.frozen 1
        have f2 := K5.frozen 2
        have f3 := K5.frozen 3
        have f4 := K5.frozen 4
        have f5 := K5.frozen 5
        have d0 := K5.cell 0
        have d1 := K5.cell 1
        have d2 := K5.cell 2
        have d3 := K5.cell 3
        have d4 := K5.cell 4
        have d5 := K5.cell 5
        simp only [List.getElem?_toArray, List.getElem?_cons_zero, List.getElem?_cons_succ] at d0 d1 d2 d3 d4 d5
        clear K5
        go_wp2_with fail
        go_region
        go_wp2_with fail
        have K6 := set6 K.out (.int .u8 2) (.int .i64 z0) (.int .i64 z1) (.int .i64 z2) (.int .i64 z3) (.int .i64 0)
        have HB6 := hide (below6 (g := w.heap.size) HB.out (Nat.le_refl _) (.int .u8 2) (.int .i64 z0) (.int .i64 z1) (.int .i64 z2) (.int .i64 z3) (.int .i64 0))
        generalize ((((((wr.setCell ⟨w.heap.size, 0, none⟩ (.int .u8 2)).setCell ⟨w.heap.size, 1, none⟩ (.int .i64 z0)).setCell ⟨w.heap.size, 2, none⟩ (.int .i64 z1)).setCell ⟨w.heap.size, 3, none⟩ (.int .i64 z2)).setCell ⟨w.heap.size, 4, none⟩ (.int .i64 z3)).setCell ⟨w.heap.size, 5, none⟩ (.int .i64 0)) = W6 at *
        have r0 := K6.cell 0
        have r1 := K6.cell 1
        have r2 := K6.cell 2
        have r3 := K6.cell 3
        have r4 := K6.cell 4
        have r5 := K6.cell 5
        simp only [List.getElem?_toArray, List.getElem?_cons_zero, List.getElem?_cons_succ] at r0 r1 r2 r3 r4 r5
        exact bodyPost_ret (v := .tuple #[.agg #[.int .u8 2, .int .i64 z0, .int .i64 z1, .int .i64 z2, .int .i64 z3, .int .i64 0], .bool true]) (by simp [results, Tryd.results16, go_sem, r0, r1, r2, r3, r4, r5]) rfl ⟨by rfl, by first | exact HB6.out | exact HB6.out.drew⟩
      have g2 : (ab.toList == [109]) = false := by rw [mI.out]; exact decide_eq_false hg2
      rw [if_neg hg2] at RR
      by_cases hg3 : a = [97]
      · rw [if_pos hg3] at RR
        subst RR
        have g3 : (ab.toList == [97]) = true := by rw [aI.out]; exact decide_eq_true hg3
        clear hg hg2 hg3
        have K5 := K.out
        have f0 := K5.frozen 0
        have f1 := K5.frozen 1
        have f2 := K5.frozen 2
        have f3 := K5.frozen 3
        have f4 := K5.frozen 4
        have f5 := K5.frozen 5
        have d0 := K5.cell 0
        have d1 := K5.cell 1
        have d2 := K5.cell 2
        have d3 := K5.cell 3
        have d4 := K5.cell 4
        have d5 := K5.cell 5
        simp only [List.getElem?_toArray, List.getElem?_cons_zero, List.getElem?_cons_succ] at d0 d1 d2 d3 d4 d5
        clear K5
        go_wp2_with fail
        go_region
        go_wp2_with fail
        have K6 := set6 K.out (.int .u8 3) (.int .i64 z0) (.int .i64 z1) (.int .i64 z3) (.int .i64 z4) (.int .i64 z2)
        have HB6 := hide (below6 (g := w.heap.size) HB.out (Nat.le_refl _) (.int .u8 3) (.int .i64 z0) (.int .i64 z1) (.int .i64 z3) (.int .i64 z4) (.int .i64 z2))
        generalize ((((((wr.setCell ⟨w.heap.size, 0, none⟩ (.int .u8 3)).setCell ⟨w.heap.size, 1, none⟩ (.int .i64 z0)).setCell ⟨w.heap.size, 2, none⟩ (.int .i64 z1)).setCell ⟨w.heap.size, 3, none⟩ (.int .i64 z3)).setCell ⟨w.heap.size, 4, none⟩ (.int .i64 z4)).setCell ⟨w.heap.size, 5, none⟩ (.int .i64 z2)) = W6 at *
        have r0 := K6.cell 0
        have r1 := K6.cell 1
        have r2 := K6.cell 2
        have r3 := K6.cell 3
        have r4 := K6.cell 4
        have r5 := K6.cell 5
        simp only [List.getElem?_toArray, List.getElem?_cons_zero, List.getElem?_cons_succ] at r0 r1 r2 r3 r4 r5
        exact bodyPost_ret (v := .tuple #[.agg #[.int .u8 3, .int .i64 z0, .int .i64 z1, .int .i64 z3, .int .i64 z4, .int .i64 z2], .bool true]) (by simp [results, Tryd.results16, go_sem, r0, r1, r2, r3, r4, r5]) rfl ⟨by rfl, by first | exact HB6.out | exact HB6.out.drew⟩
      have g3 : (ab.toList == [97]) = false := by rw [aI.out]; exact decide_eq_false hg3
      rw [if_neg hg3] at RR
      subst RR
      clear hg hg2 hg3
      have K5 := K.out
      have f0 := K5.frozen 0
      have f1 := K5.frozen 1
      have f2 := K5.frozen 2
      have f3 := K5.frozen 3
      have f4 := K5.frozen 4
      have f5 := K5.frozen 5
      have d0 := K5.cell 0
      have d1 := K5.cell 1
      have d2 := K5.cell 2
      have d3 := K5.cell 3
      have d4 := K5.cell 4
      have d5 := K5.cell 5
      simp only [List.getElem?_toArray, List.getElem?_cons_zero, List.getElem?_cons_succ] at d0 d1 d2 d3 d4 d5
      clear K5
      go_wp2_with fail
      have K6 := set6 K.out (.int .u8 0) (.int .i64 0) (.int .i64 0) (.int .i64 0) (.int .i64 0) (.int .i64 0)
      have HB6 := hide (below6 (g := w.heap.size) HB.out (Nat.le_refl _) (.int .u8 0) (.int .i64 0) (.int .i64 0) (.int .i64 0) (.int .i64 0) (.int .i64 0))
      generalize ((((((wr.setCell ⟨w.heap.size, 0, none⟩ (.int .u8 0)).setCell ⟨w.heap.size, 1, none⟩ (.int .i64 0)).setCell ⟨w.heap.size, 2, none⟩ (.int .i64 0)).setCell ⟨w.heap.size, 3, none⟩ (.int .i64 0)).setCell ⟨w.heap.size, 4, none⟩ (.int .i64 0)).setCell ⟨w.heap.size, 5, none⟩ (.int .i64 0)) = W6 at *
      have r0 := K6.cell 0
      have r1 := K6.cell 1
      have r2 := K6.cell 2
      have r3 := K6.cell 3
      have r4 := K6.cell 4
      have r5 := K6.cell 5
      simp only [List.getElem?_toArray, List.getElem?_cons_zero, List.getElem?_cons_succ] at r0 r1 r2 r3 r4 r5
      exact bodyPost_ret (v := .tuple #[.agg #[.int .u8 0, .int .i64 0, .int .i64 0, .int .i64 0, .int .i64 0, .int .i64 0], .bool false]) (by simp [results, Tryd.results16, go_sem, r0, r1, r2, r3, r4, r5]) rfl ⟨by rfl, by first | exact HB6.out | exact HB6.out.drew⟩
  have HM0 := hide m0
  go_wp2_with fail
  go_loopw [23] (fun vi wr => ∃ (i : Nat) (L : List Int), i ≤ m ∧ vi = .int .i64 i ∧ Hid (L.length = i) ∧ Hid (numsA (ws.take i) = some L) ∧ Hid (Below w.heap.size w wr) ∧ Hid (Blk wr w.heap.size 39 #[.int .u8 0, .int .i64 0, .int .i64 0, .int .i64 0, .int .i64 0, .int .i64 0]) ∧ Hid (Blk wr (w.heap.size + 1) 9 PC) ∧ Hid (Blk wr (w.heap.size + 1 + 1) 3 (five L))) (fun vi _ => m - (intOf vi).toNat)
  case atStart => exact ⟨0, [], Nat.zero_le _, rfl, hide rfl, hide rfl, HB3, K3, Q3, N3⟩
  case round =>
    obtain ⟨i, L, hi, rfl, HL, HG, HB, K, Q, N⟩ := hrel
    have q0 : wr.cell? ⟨w.heap.size + 1, 0, none⟩ = some (.string (bytes a)) := (Q.out.cell 0).trans PC0
    by_cases hltm : i < m
    · have hlt : i < ws.length := by rw [HM.out]; exact hltm
      have ltI : (i : Int) < (m : Int) := by omega
      have qi : wr.cell? ⟨w.heap.size + 1, 1 + i, none⟩ = some (.string (bytes ws[i])) := (Q.out.cell (1 + i)).trans (PCS.out i hlt)
      have hsz : (bytes ws[i]).size ≤ 281474976710656 := by
        rw [bytes_size]
        have := HLE.out ws[i] (List.mem_cons_of_mem _ (List.getElem_mem hlt))
        omega
      have hbd : (bytes ws[i]).data.toList = ws[i] := by simp [bytes]
      have i5 : i < 5 := by have := h05.out; have := HM.out; omega
      have i5I : (i : Int) < 5 := by omega
      by_cases hok : ∃ z, atoiAll ws[i] = .ok z
      · obtain ⟨z, hz⟩ := hok
        have AT := hide (atoi_ok (bytes ws[i]) hsz z (by rw [hbd]; exact hz))
        have HG2 := hide (numsA_take hlt HG.out hz)
        clear hsz hbd hz
        generalize bytes ws[i] = wi at *
        go_wp2_with fail
        refine (AT.out _).mono ?_
        rintro e w1 ⟨rfl, hb1⟩
        have HB1 := hide (HB.out.trans (hb1.mono HB.out.size))
        have K1 := hide (K.out.below hb1 K.out.lt)
        have Q1 := hide (Q.out.below hb1 Q.out.lt)
        have n1 := N.out.below hb1 N.out.lt
        have hcell := (n1.cell i).trans (five_at i5)
        have hfr := n1.frozen i
        have N1 := hide n1
        clear hb1 n1
        generalize L.getD i 0 = zold at *
        go_wp2_with fail
        go_roundw
        case rel => exact ⟨i + 1, L ++ [z], by omega, by go_num, hide (by rw [List.length_append, HL.out]; rfl), HG2, hide (HB1.out.setCell (p := ⟨w.heap.size + 1 + 1, i, none⟩) (by show w.heap.size ≤ w.heap.size + 1 + 1; omega) _), hide (K1.out.far (by show w.heap.size ≠ w.heap.size + 1 + 1; omega) _), hide (Q1.out.far (by show w.heap.size + 1 ≠ w.heap.size + 1 + 1; omega) _), hide (by rw [← five_set HL.out i5 z]; exact N1.out.set_ i _)⟩
        case measure => simp [intOf] <;> omega
      · have hno : ∀ v, atoiAll (bytes ws[i]).data.toList ≠ .ok v := fun v e => hok ⟨v, by rw [hbd] at e; exact e⟩
        have hwr := HE.out.below HB.out (Nat.le_refl _)
        have AT := hide (atoi_no (bytes ws[i]) hsz hno wr hwr)
        have R := NON.out (numsA_no ws i hlt fun v e => hok ⟨v, e⟩)
        subst R
        clear hsz hbd hno hok hwr
        generalize bytes ws[i] = wi at *
        go_wp2_with fail
        refine AT.out.mono ?_
        rintro e w1 ⟨xx, tt, pp, rfl, hb1⟩
        have HB1 := hide (HB.out.trans (hb1.mono HB.out.size))
        have K1 := hide (K.out.below hb1 K.out.lt)
        clear hb1
        have K5 := K1.out
        have f0 := K5.frozen 0
        have f1 := K5.frozen 1
        have f2 := K5.frozen 2
        have f3 := K5.frozen 3
        have f4 := K5.frozen 4
        have f5 := K5.frozen 5
        have d0 := K5.cell 0
        have d1 := K5.cell 1
        have d2 := K5.cell 2
        have d3 := K5.cell 3
        have d4 := K5.cell 4
        have d5 := K5.cell 5
        simp only [List.getElem?_toArray, List.getElem?_cons_zero, List.getElem?_cons_succ] at d0 d1 d2 d3 d4 d5
        clear K5
        go_wp2_with fail
        have K6 := set6 K1.out (.int .u8 0) (.int .i64 0) (.int .i64 0) (.int .i64 0) (.int .i64 0) (.int .i64 0)
        have HB6 := hide (below6 (g := w.heap.size) HB1.out (Nat.le_refl _) (.int .u8 0) (.int .i64 0) (.int .i64 0) (.int .i64 0) (.int .i64 0) (.int .i64 0))
        generalize ((((((w1.setCell ⟨w.heap.size, 0, none⟩ (.int .u8 0)).setCell ⟨w.heap.size, 1, none⟩ (.int .i64 0)).setCell ⟨w.heap.size, 2, none⟩ (.int .i64 0)).setCell ⟨w.heap.size, 3, none⟩ (.int .i64 0)).setCell ⟨w.heap.size, 4, none⟩ (.int .i64 0)).setCell ⟨w.heap.size, 5, none⟩ (.int .i64 0)) = W6 at *
        have r0 := K6.cell 0
        have r1 := K6.cell 1
        have r2 := K6.cell 2
        have r3 := K6.cell 3
        have r4 := K6.cell 4
        have r5 := K6.cell 5
        simp only [List.getElem?_toArray, List.getElem?_cons_zero, List.getElem?_cons_succ] at r0 r1 r2 r3 r4 r5
        exact bodyPost_ret (v := .tuple #[.agg #[.int .u8 0, .int .i64 0, .int .i64 0, .int .i64 0, .int .i64 0, .int .i64 0], .bool false]) (by simp [results, Tryd.results16, go_sem, r0, r1, r2, r3, r4, r5]) rfl ⟨by rfl, by first | exact HB6.out | exact HB6.out.drew⟩
    · obtain rfl : i = m := by omega
      have ltI : ¬ (i : Int) < (i : Int) := by omega
      have HG2 := HG.out
      rw [← HM.out, List.take_length] at HG2
      have RR := YES.out L h05.out HG2
      have n0 := (N.out.cell 0).trans (five_at (by omega))
      have n1 := (N.out.cell 1).trans (five_at (by omega))
      have n2 := (N.out.cell 2).trans (five_at (by omega))
      have n3 := (N.out.cell 3).trans (five_at (by omega))
      have n4 := (N.out.cell 4).trans (five_at (by omega))
      unfold mkA at RR
      have lb := lit_beq a
      clear HG2
      generalize L.getD 0 0 = z0 at *
      generalize L.getD 1 0 = z1 at *
      generalize L.getD 2 0 = z2 at *
      generalize L.getD 3 0 = z3 at *
      generalize L.getD 4 0 = z4 at *
      have gI := hide (lb [103])
      have mI := hide (lb [109])
      have aI := hide (lb [97])
      clear lb
      generalize bytes a = ab at *
      by_cases hg : a = [103]
      · rw [if_pos hg] at RR
        subst RR
        have g1 : (ab.toList == [103]) = true := by rw [gI.out]; exact decide_eq_true hg
        clear hg
        have K5 := K.out
        have f0 := K5.frozen 0
        have f1 := K5.frozen 1
        have f2 := K5.frozen 2
        have f3 := K5.frozen 3
        have f4 := K5.frozen 4
        have f5 := K5.frozen 5
        have d0 := K5.cell 0
        have d1 := K5.cell 1
        have d2 := K5.cell 2
        have d3 := K5.cell 3
        have d4 := K5.cell 4
        have d5 := K5.cell 5
        simp only [List.getElem?_toArray, List.getElem?_cons_zero, List.getElem?_cons_succ] at d0 d1 d2 d3 d4 d5
        clear K5
        go_wp2_with fail
        have K6 := set6 K.out (.int .u8 1) (.int .i64 z0) (.int .i64 0) (.int .i64 0) (.int .i64 0) (.int .i64 0)
        have HB6 := hide (below6 (g := w.heap.size) HB.out (Nat.le_refl _) (.int .u8 1) (.int .i64 z0) (.int .i64 0) (.int .i64 0) (.int .i64 0) (.int .i64 0))
        generalize ((((((wr.setCell ⟨w.heap.size, 0, none⟩ (.int .u8 1)).setCell ⟨w.heap.size, 1, none⟩ (.int .i64 z0)).setCell ⟨w.heap.size, 2, none⟩ (.int .i64 0)).setCell ⟨w.heap.size, 3, none⟩ (.int .i64 0)).setCell ⟨w.heap.size, 4, none⟩ (.int .i64 0)).setCell ⟨w.heap.size, 5, none⟩ (.int .i64 0)) = W6 at *
        have r0 := K6.cell 0
        have r1 := K6.cell 1
        have r2 := K6.cell 2
        have r3 := K6.cell 3
        have r4 := K6.cell 4
        have r5 := K6.cell 5
        simp only [List.getElem?_toArray, List.getElem?_cons_zero, List.getElem?_cons_succ] at r0 r1 r2 r3 r4 r5
        exact bodyPost_ret (v := .tuple #[.agg #[.int .u8 1, .int .i64 z0, .int .i64 0, .int .i64 0, .int .i64 0, .int .i64 0], .bool true]) (by simp [results, Tryd.results16, go_sem, r0, r1, r2, r3, r4, r5]) rfl ⟨by rfl, by first | exact HB6.out | exact HB6.out.drew⟩
      have g1 : (ab.toList == [103]) = false := by rw [gI.out]; exact decide_eq_false hg
      rw [if_neg hg] at RR
      by_cases hg2 : a = [109]
      · rw [if_pos hg2] at RR
        subst RR
        have g2 : (ab.toList == [109]) = true := by rw [mI.out]; exact decide_eq_true hg2
        clear hg hg2
        have K5 := K.out
        have f0 := K5.frozen 0
        have f1 := K5.frozen 1
        have f2 := K5.frozen 2
        have f3 := K5.frozen 3
        have f4 := K5.frozen 4
        have f5 := K5.frozen 5
        have d0 := K5.cell 0
        have d1 := K5.cell 1
        have d2 := K5.cell 2
        have d3 := K5.cell 3
        have d4 := K5.cell 4
        have d5 := K5.cell 5
        simp only [List.getElem?_toArray, List.getElem?_cons_zero, List.getElem?_cons_succ] at d0 d1 d2 d3 d4 d5
        clear K5
        go_wp2_with fail
        go_region
        go_wp2_with fail
        have K6 := set6 K.out (.int .u8 2) (.int .i64 z0) (.int .i64 z1) (.int .i64 z2) (.int .i64 z3) (.int .i64 0)
        have HB6 := hide (below6 (g := w.heap.size) HB.out (Nat.le_refl _) (.int .u8 2) (.int .i64 z0) (.int .i64 z1) (.int .i64 z2) (.int .i64 z3) (.int .i64 0))
        generalize ((((((wr.setCell ⟨w.heap.size, 0, none⟩ (.int .u8 2)).setCell ⟨w.heap.size, 1, none⟩ (.int .i64 z0)).setCell ⟨w.heap.size, 2, none⟩ (.int .i64 z1)).setCell ⟨w.heap.size, 3, none⟩ (.int .i64 z2)).setCell ⟨w.heap.size, 4, none⟩ (.int .i64 z3)).setCell ⟨w.heap.size, 5, none⟩ (.int .i64 0)) = W6 at *
        have r0 := K6.cell 0
        have r1 := K6.cell 1
        have r2 := K6.cell 2
        have r3 := K6.cell 3
        have r4 := K6.cell 4
        have r5 := K6.cell 5
        simp only [List.getElem?_toArray, List.getElem?_cons_zero, List.getElem?_cons_succ] at r0 r1 r2 r3 r4 r5
        exact bodyPost_ret (v := .tuple #[.agg #[.int .u8 2, .int .i64 z0, .int .i64 z1, .int .i64 z2, .int .i64 z3, .int .i64 0], .bool true]) (by simp [results, Tryd.results16, go_sem, r0, r1, r2, r3, r4, r5]) rfl ⟨by rfl, by first | exact HB6.out | exact HB6.out.drew⟩
      have g2 : (ab.toList == [109]) = false := by rw [mI.out]; exact decide_eq_false hg2
      rw [if_neg hg2] at RR
      by_cases hg3 : a = [97]
      · rw [if_pos hg3] at RR
        subst RR
        have g3 : (ab.toList == [97]) = true := by rw [aI.out]; exact decide_eq_true hg3
        clear hg hg2 hg3
        have K5 := K.out
        have f0 := K5.frozen 0
        have f1 := K5.frozen 1
        have f2 := K5.frozen 2
        have f3 := K5.frozen 3
        have f4 := K5.frozen 4
        have f5 := K5.frozen 5
        have d0 := K5.cell 0
        have d1 := K5.cell 1
        have d2 := K5.cell 2
        have d3 := K5.cell 3
        have d4 := K5.cell 4
        have d5 := K5.cell 5
        simp only [List.getElem?_toArray, List.getElem?_cons_zero, List.getElem?_cons_succ] at d0 d1 d2 d3 d4 d5
        clear K5
        go_wp2_with fail
        go_region
        go_wp2_with fail
        have K6 := set6 K.out (.int .u8 3) (.int .i64 z0) (.int .i64 z1) (.int .i64 z3) (.int .i64 z4) (.int .i64 z2)
        have HB6 := hide (below6 (g := w.heap.size) HB.out (Nat.le_refl _) (.int .u8 3) (.int .i64 z0) (.int .i64 z1) (.int .i64 z3) (.int .i64 z4) (.int .i64 z2))
        generalize ((((((wr.setCell ⟨w.heap.size, 0, none⟩ (.int .u8 3)).setCell ⟨w.heap.size, 1, none⟩ (.int .i64 z0)).setCell ⟨w.heap.size, 2, none⟩ (.int .i64 z1)).setCell ⟨w.heap.size, 3, none⟩ (.int .i64 z3)).setCell ⟨w.heap.size, 4, none⟩ (.int .i64 z4)).setCell ⟨w.heap.size, 5, none⟩ (.int .i64 z2)) = W6 at *
        have r0 := K6.cell 0
        have r1 := K6.cell 1
        have r2 := K6.cell 2
        have r3 := K6.cell 3
        have r4 := K6.cell 4
        have r5 := K6.cell 5
        simp only [List.getElem?_toArray, List.getElem?_cons_zero, List.getElem?_cons_succ] at r0 r1 r2 r3 r4 r5
        exact bodyPost_ret (v := .tuple #[.agg #[.int .u8 3, .int .i64 z0, .int .i64 z1, .int .i64 z3, .int .i64 z4, .int .i64 z2], .bool true]) (by simp [results, Tryd.results16, go_sem, r0, r1, r2, r3, r4, r5]) rfl ⟨by rfl, by first | exact HB6.out | exact HB6.out.drew⟩
      have g3 : (ab.toList == [97]) = false := by rw [aI.out]; exact decide_eq_false hg3
      rw [if_neg hg3] at RR
      subst RR
      clear hg hg2 hg3
      have K5 := K.out
      have f0 := K5.frozen 0
      have f1 := K5.frozen 1
      have f2 := K5.frozen 2
      have f3 := K5.frozen 3
      have f4 := K5.frozen 4
      have f5 := K5.frozen 5
      have d0 := K5.cell 0
      have d1 := K5.cell 1
      have d2 := K5.cell 2
      have d3 := K5.cell 3
      have d4 := K5.cell 4
      have d5 := K5.cell 5
      simp only [List.getElem?_toArray, List.getElem?_cons_zero, List.getElem?_cons_succ] at d0 d1 d2 d3 d4 d5
      clear K5
      go_wp2_with fail
      have K6 := set6 K.out (.int .u8 0) (.int .i64 0) (.int .i64 0) (.int .i64 0) (.int .i64 0) (.int .i64 0)
      have HB6 := hide (below6 (g := w.heap.size) HB.out (Nat.le_refl _) (.int .u8 0) (.int .i64 0) (.int .i64 0) (.int .i64 0) (.int .i64 0) (.int .i64 0))
      generalize ((((((wr.setCell ⟨w.heap.size, 0, none⟩ (.int .u8 0)).setCell ⟨w.heap.size, 1, none⟩ (.int .i64 0)).setCell ⟨w.heap.size, 2, none⟩ (.int .i64 0)).setCell ⟨w.heap.size, 3, none⟩ (.int .i64 0)).setCell ⟨w.heap.size, 4, none⟩ (.int .i64 0)).setCell ⟨w.heap.size, 5, none⟩ (.int .i64 0)) = W6 at *
      have r0 := K6.cell 0
      have r1 := K6.cell 1
      have r2 := K6.cell 2
      have r3 := K6.cell 3
      have r4 := K6.cell 4
      have r5 := K6.cell 5
      simp only [List.getElem?_toArray, List.getElem?_cons_zero, List.getElem?_cons_succ] at r0 r1 r2 r3 r4 r5
      exact bodyPost_ret (v := .tuple #[.agg #[.int .u8 0, .int .i64 0, .int .i64 0, .int .i64 0, .int .i64 0, .int .i64 0], .bool false]) (by simp [results, Tryd.results16, go_sem, r0, r1, r2, r3, r4, r5]) rfl ⟨by rfl, by first | exact HB6.out | exact HB6.out.drew⟩
end Wit
end Go.Proofs.YtaakndenkfkijaaDoor
