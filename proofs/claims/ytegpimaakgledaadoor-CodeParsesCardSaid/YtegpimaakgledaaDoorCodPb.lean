/- A text parsed as the document does: Parse. -/
import Derived.Test.YtegpimaakgledaaDoorRows
import Derived.Test.YtegpimaakgledaaDoorCodPt
namespace Go.Proofs.YtegpimaakgledaaDoor
open Go Go.RowKit
open Go.Lib (itoa atoiAll parseIntB trimPrefix hasPrefix)
open Wit (spl jnB jn_cons jn_spl spl_jn rdB rdB_itoa rdB_sound Fit spl_pos)
set_option linter.unusedVariables false
set_option linter.unusedSimpArgs false
namespace Cod
theorem split_at (c : Nat) (b : UInt8) (hb : (b.toNat : Int) = (c : Int)) (s : List UInt8) (w : World) (hs : s.length ≤ 1000000) :
    Calls Tryd.prog 35 #[.string (bytes s), .int .u8 c] w fun e w' => (∃ A n, e = .returned (.slice A (spl b [] s).length n) ∧ w'.ownsRow w.heap.size 9 1 (.slice A (spl b [] s).length n) (spl b [] s).length ((spl b [] s).map strV)) ∧ Below w.heap.size w w' := by
  have e1 : (bytes s).data.toList = s := by simp [bytes]
  have h := split_b (bytes s) b w (by rw [bytes_size]; omega)
  rw [e1, hb] at h
  refine h.mono ?_
  rintro e w' ⟨⟨v, rfl, ho⟩, hb⟩
  obtain ⟨A, n, rfl⟩ := slice_of_own ho
  exact ⟨⟨A, n, rfl, ho⟩, hb⟩
theorem num_at (s : List UInt8) (w : World) (hs : s.length ≤ 1000000) :
    Calls Tryd.prog 36 #[.string (bytes s)] w fun e w' => e = .returned (.tuple #[.int .i64 (rdB s).1, .bool (rdB s).2]) ∧ Below w.heap.size w w' := by
  have e1 : (bytes s).data.toList = s := by simp [bytes]
  have h := number_b (bytes s) w (by rw [bytes_size]; omega)
  rwa [e1] at h
set_option maxRecDepth 100000 in
set_option maxHeartbeats 16000000 in
theorem Parse_b (s : List UInt8) (w : World) (hl : s.length ≤ 80000) :
    Calls Tryd.prog 20 #[.string (bytes s)] w (PbPost s w) := by
  have a1 := (Below.refl w.heap.size w).alloc (Nat.le_refl _) (.cells Z3 25)
  have k1 := Blk.new w 25 Z3
  have hs1 : (w.alloc (.cells Z3 25)).heap.size = w.heap.size + 1 := by simp
  have a2 := a1.alloc a1.size (.cells Z3 25)
  have k1' := k1.alloc (.cells Z3 25)
  have k2 := Blk.new (w.alloc (.cells Z3 25)) 25 Z3
  have hs2 : ((w.alloc (.cells Z3 25)).alloc (.cells Z3 25)).heap.size = w.heap.size + 1 + 1 := by simp
  have a3 := a2.alloc a2.size (.cells Z3 25)
  have k1'' := k1'.alloc (.cells Z3 25)
  have k2' := k2.alloc (.cells Z3 25)
  have k3 := Blk.new ((w.alloc (.cells Z3 25)).alloc (.cells Z3 25)) 25 Z3
  rw [hs1] at k2'
  rw [hs2] at k3
  unfold Z3 at a3 k1'' k2' k3
  obtain ⟨w3, hw3⟩ : ∃ z, ((w.alloc (.cells #[.slice none 0 0, .int .i64 0, .slice none 0 0] 25)).alloc (.cells #[.slice none 0 0, .int .i64 0, .slice none 0 0] 25)).alloc (.cells #[.slice none 0 0, .int .i64 0, .slice none 0 0] 25) = z := ⟨_, rfl⟩
  rw [hw3] at a3 k1'' k2' k3
  have HWW := hide hw3
  clear hw3 a1 k1 hs1 a2 k1' k2 hs2
  go_enter Tryd.func20, Tryd.ntmps20
  go_upto_region 3 with (fail)
  rw [HWW.out]
  clear HWW
  obtain ⟨Y, hY⟩ : ∃ Y, w.heap.size + 1 = Y := ⟨_, rfl⟩
  obtain ⟨Z, hZ⟩ : ∃ Z, w.heap.size + 1 + 1 = Z := ⟨_, rfl⟩
  rw [hZ] at k3 ⊢
  rw [hY] at k2' ⊢
  have hYw : w.heap.size < Y := by omega
  have hYZ : Y < Z := by omega
  obtain ⟨X, hX⟩ : ∃ X, w.heap.size = X := ⟨_, rfl⟩
  rw [hX] at a3 k1'' hYw ⊢
  have HX := hide hX
  have HXY := hide (And.intro hYw hYZ)
  have K1 := hide (And.intro k1'' (And.intro k2' (And.intro k3 (And.intro a3 (Nat.le_of_lt k1''.lt)))))
  clear k1'' k2' k3 a3 hX hY hZ hYw hYZ
  have SP := hide (split_at 10 10 rfl s w3 (by omega))
  have SL := spl_len 10 s []
  obtain ⟨L, hL⟩ : ∃ L, spl 10 [] s = L := ⟨_, rfl⟩
  rw [hL] at SP SL
  have HL := hide hL
  have HLE := hide (show ∀ (i : Nat) (p : List UInt8), L[i]? = some p → p.length ≤ 80000 from fun i p h => by have := SL.2 p (List.mem_of_getElem? h); rw [List.length_nil] at this; omega)
  have hLl : L.length ≤ 80001 := by have := SL.1; omega
  obtain ⟨NL, hNL⟩ : ∃ n, L.length = n := ⟨_, rfl⟩
  have HNL := hide hNL
  rw [hNL] at SP hLl
  clear SL hL hNL
  go_wp2_with fail
  refine SP.out.mono ?_
  rintro e w4 ⟨⟨LA, lc, rfl, hlo⟩, hb4⟩
  have P4 : Hid (Pst w w4 X Y Z Z3 LA lc L) := hide ⟨K1.out.1.below hb4 K1.out.1.lt, K1.out.2.1.below hb4 K1.out.2.1.lt, K1.out.2.2.1.below hb4 K1.out.2.2.1.lt, own_more (by rw [HNL.out]; exact hlo) (by have := K1.out.2.2.2.2; exact this), K1.out.2.2.2.1.trans (hb4.mono K1.out.2.2.2.2), Nat.le_trans K1.out.2.2.2.2 hb4.size⟩
  clear hlo hb4 K1 SP
  by_cases h4 : NL < 4
  · have g1 : (NL : Int) < 4 := by omega
    have WHY := hide (np_len HL.out (.inl (by rw [HNL.out]; exact h4)))
    clear h4
    have n0 : w4.cell? ⟨Z, 0, none⟩ = some (.slice none 0 0) := P4.out.bz.cell 0
    have n1 : w4.cell? ⟨Z, 1, none⟩ = some (.int .i64 0) := P4.out.bz.cell 1
    have n2 : w4.cell? ⟨Z, 2, none⟩ = some (.slice none 0 0) := P4.out.bz.cell 2
    have f0 := P4.out.bx.frozen 0
    have f1 := P4.out.bx.frozen 1
    have f2 := P4.out.bx.frozen 2
    have z0 : w4.cell? ⟨X, 0, none⟩ = some (.slice none 0 0) := P4.out.bx.cell 0
    have z1 : w4.cell? ⟨X, 1, none⟩ = some (.int .i64 0) := P4.out.bx.cell 1
    have z2 : w4.cell? ⟨X, 2, none⟩ = some (.slice none 0 0) := P4.out.bx.cell 2
    have k9 := ((P4.out.bx.set_ 0 (.slice none 0 0)).set_ 1 (.int .i64 0)).set_ 2 (.slice none 0 0)
    have HB9 := hide (((P4.out.bl.setCell (p := ⟨X, 0, none⟩) (Nat.le_refl _) (.slice none 0 0)).setCell (p := ⟨X, 1, none⟩) (Nat.le_refl _) (.int .i64 0)).setCell (p := ⟨X, 2, none⟩) (Nat.le_refl _) (.slice none 0 0))
    obtain ⟨w9, hw9⟩ : ∃ z, ((w4.setCell ⟨X, 0, none⟩ (.slice none 0 0)).setCell ⟨X, 1, none⟩ (.int .i64 0)).setCell ⟨X, 2, none⟩ (.slice none 0 0) = z := ⟨_, rfl⟩
    rw [hw9] at k9 HB9
    have u0 : w9.cell? ⟨X, 0, none⟩ = some (.slice none 0 0) := k9.cell 0
    have u1 : w9.cell? ⟨X, 1, none⟩ = some (.int .i64 0) := k9.cell 1
    have u2 : w9.cell? ⟨X, 2, none⟩ = some (.slice none 0 0) := k9.cell 2
    clear k9
    go_wp2_with fail
    exact bodyPost_ret (v := .tuple #[.agg #[.slice none 0 0, .int .i64 0, .slice none 0 0], .int .i64 50]) (by simp [results, Tryd.results20, go_sem, u0, u1, u2]) rfl ⟨.inr ⟨rfl, WHY.out⟩, by rw [HX.out]; exact HB9.out⟩
  have g1 : ¬ (NL : Int) < 4 := by omega
  obtain ⟨g, rfl, hlc⟩ := str_cells (by have := P4.out.lr; exact this) (show 0 < L.length by rw [HNL.out]; omega)
  have LC := hide (fun (wr : World) (pc : Array Value) (p : Pst w wr X Y Z pc (some ⟨g, 0, none⟩) lc L) (i : Nat) (x : List UInt8) (h : L[i]? = some x) => show wr.cell? ⟨g, i, none⟩ = some (.string (bytes x)) from by
    obtain ⟨g', e, hc⟩ := str_cells p.lr (show 0 < L.length by rw [HNL.out]; omega)
    have e' : g = g' := by injection e with e; injection e
    rw [e']
    obtain ⟨hi, hx⟩ := List.getElem?_eq_some_iff.1 h
    rw [← hx]
    exact hc i hi)
  clear hlc
  have s1 : IntKind.i64.wrap ((NL : Int) - 1) = ((NL - 1 : Nat) : Int) := by rw [IntKind.wrap_i64]; omega
  obtain ⟨ll, hll⟩ : ∃ x, L[NL - 1]? = some x := ⟨_, List.getElem?_eq_getElem (by rw [HNL.out]; omega)⟩
  have c0 := LC.out w4 _ P4.out (NL - 1) ll hll
  obtain ⟨M1, hM1⟩ : ∃ m, NL - 1 = m := ⟨_, rfl⟩
  rw [hM1] at s1 c0 hll
  have hM1I : (M1 : Int) < (NL : Int) := by omega
  have HM1 := hide hM1
  have EQ := bytes_nil ll
  by_cases hlast : ll = []
  rotate_left
  · rw [decide_eq_false hlast] at EQ
    have WHY := hide (np_len HL.out (.inr (by
      rw [HNL.out, hM1, hll]
      intro e
      injection e with e
      exact hlast e)))
    clear hlast hll hM1
    have n0 : w4.cell? ⟨Z, 0, none⟩ = some (.slice none 0 0) := P4.out.bz.cell 0
    have n1 : w4.cell? ⟨Z, 1, none⟩ = some (.int .i64 0) := P4.out.bz.cell 1
    have n2 : w4.cell? ⟨Z, 2, none⟩ = some (.slice none 0 0) := P4.out.bz.cell 2
    have f0 := P4.out.bx.frozen 0
    have f1 := P4.out.bx.frozen 1
    have f2 := P4.out.bx.frozen 2
    have z0 : w4.cell? ⟨X, 0, none⟩ = some (.slice none 0 0) := P4.out.bx.cell 0
    have z1 : w4.cell? ⟨X, 1, none⟩ = some (.int .i64 0) := P4.out.bx.cell 1
    have z2 : w4.cell? ⟨X, 2, none⟩ = some (.slice none 0 0) := P4.out.bx.cell 2
    have k9 := ((P4.out.bx.set_ 0 (.slice none 0 0)).set_ 1 (.int .i64 0)).set_ 2 (.slice none 0 0)
    have HB9 := hide (((P4.out.bl.setCell (p := ⟨X, 0, none⟩) (Nat.le_refl _) (.slice none 0 0)).setCell (p := ⟨X, 1, none⟩) (Nat.le_refl _) (.int .i64 0)).setCell (p := ⟨X, 2, none⟩) (Nat.le_refl _) (.slice none 0 0))
    obtain ⟨w9, hw9⟩ : ∃ z, ((w4.setCell ⟨X, 0, none⟩ (.slice none 0 0)).setCell ⟨X, 1, none⟩ (.int .i64 0)).setCell ⟨X, 2, none⟩ (.slice none 0 0) = z := ⟨_, rfl⟩
    rw [hw9] at k9 HB9
    have u0 : w9.cell? ⟨X, 0, none⟩ = some (.slice none 0 0) := k9.cell 0
    have u1 : w9.cell? ⟨X, 1, none⟩ = some (.int .i64 0) := k9.cell 1
    have u2 : w9.cell? ⟨X, 2, none⟩ = some (.slice none 0 0) := k9.cell 2
    clear k9
    go_wp2_with fail
    exact bodyPost_ret (v := .tuple #[.agg #[.slice none 0 0, .int .i64 0, .slice none 0 0], .int .i64 50]) (by simp [results, Tryd.results20, go_sem, u0, u1, u2]) rfl ⟨.inr ⟨rfl, WHY.out⟩, by rw [HX.out]; exact HB9.out⟩
  rw [decide_eq_true hlast] at EQ
  subst hlast
  have HLST := hide hll
  obtain ⟨l0, hl0⟩ : ∃ x, L[0]? = some x := ⟨_, List.getElem?_eq_getElem (by rw [HNL.out]; omega)⟩
  obtain ⟨l1, hl1⟩ : ∃ x, L[1]? = some x := ⟨_, List.getElem?_eq_getElem (by rw [HNL.out]; omega)⟩
  have d0 := LC.out w4 _ P4.out 0 l0 hl0
  have i0I : (0 : Int) < (NL : Int) := by omega
  have i1I : (1 : Int) < (NL : Int) := by omega
  have SP0 := hide (split_at 32 32 rfl l0 w4 (by have := HLE.out 0 l0 hl0; omega))
  have SP1 := hide (fun w' => split_at 32 32 rfl l1 w' (by have := HLE.out 1 l1 hl1; omega))
  have SL0 := spl_len 32 l0 []
  have SL1 := spl_len 32 l1 []
  have hv1 : 0 < (spl 32 [] l1).length := by
    obtain ⟨p, r, e⟩ := spl_pos 32 l1 []
    rw [e]
    simp
  have hv0 : 0 < (spl 32 [] l0).length := by
    obtain ⟨p, r, e⟩ := spl_pos 32 l0 []
    rw [e]
    simp
  obtain ⟨V0, hV0⟩ : ∃ L, spl 32 [] l0 = L := ⟨_, rfl⟩
  obtain ⟨V1, hV1⟩ : ∃ L, spl 32 [] l1 = L := ⟨_, rfl⟩
  rw [hV0] at SP0 SL0 hv0
  rw [hV1] at SP1 SL1 hv1
  have hp0 := HLE.out 0 l0 hl0
  have hp1 := HLE.out 1 l1 hl1
  have HE0 := hide (show ∀ (i : Nat) (p : List UInt8), V0[i]? = some p → p.length ≤ 80000 from fun i p h => by have := SL0.2 p (List.mem_of_getElem? h); rw [List.length_nil] at this; omega)
  have HE1 := hide (show ∀ (i : Nat) (p : List UInt8), V1[i]? = some p → p.length ≤ 80000 from fun i p h => by have := SL1.2 p (List.mem_of_getElem? h); rw [List.length_nil] at this; omega)
  have hV1l : V1.length ≤ 80001 := by have := SL1.1; omega
  have HV0 := hide hV0
  have HV1 := hide hV1
  have HL0 := hide hl0
  have HL1 := hide hl1
  have NPV := hide (fun h => np_V HL.out hl0 (by rw [hV0]; exact h))
  have NPA := hide (fun h => np_A HL.out hl1 (by rw [hV1]; exact h))
  clear hll hM1 hl0 hV0 hV1 SL0 SL1 hp0 hp1
  go_wp2_with fail
  refine SP0.out.mono ?_
  rintro e w5 ⟨⟨A0, n0, rfl, ho0⟩, hb5⟩
  have P5 := hide (P4.out.below hb5)
  have d1 := LC.out w5 _ P5.out 1 l1 hl1
  have O5 := hide ho0
  clear hb5 ho0 SP0 d0 hl1 P4 c0 EQ
  go_wp2_with fail
  refine (SP1.out w5).mono ?_
  rintro e w6 ⟨⟨A1, n1, rfl, ho1⟩, hb6⟩
  have P6 := hide (P5.out.below hb6)
  have O6 := own_belowR O5.out hb6
  obtain ⟨g0, rfl, hc0⟩ := str_cells O6 hv0
  obtain ⟨g1', rfl, hc1⟩ := str_cells ho1 hv1
  have R6 := hide (own_more ho1 (show X ≤ w5.heap.size from P5.out.le))
  have HC0 := hide hc0
  have x10 := hc1 0 hv1
  have hv1I : (0 : Int) < (V1.length : Int) := by omega
  clear hb6 O6 ho1 SP1 O5 P5 d1 hc0 hc1
  by_cases h2 : V0.length = 2
  rotate_left
  · have g2 : ((V0.length : Int) != 2) = true := by rw [bne_iff_ne]; omega
    have WHY := hide (NPV.out (.inl h2))
    clear h2
    have n0 : w6.cell? ⟨Z, 0, none⟩ = some (.slice none 0 0) := P6.out.bz.cell 0
    have n1 : w6.cell? ⟨Z, 1, none⟩ = some (.int .i64 0) := P6.out.bz.cell 1
    have n2 : w6.cell? ⟨Z, 2, none⟩ = some (.slice none 0 0) := P6.out.bz.cell 2
    have f0 := P6.out.bx.frozen 0
    have f1 := P6.out.bx.frozen 1
    have f2 := P6.out.bx.frozen 2
    have z0 : w6.cell? ⟨X, 0, none⟩ = some (.slice none 0 0) := P6.out.bx.cell 0
    have z1 : w6.cell? ⟨X, 1, none⟩ = some (.int .i64 0) := P6.out.bx.cell 1
    have z2 : w6.cell? ⟨X, 2, none⟩ = some (.slice none 0 0) := P6.out.bx.cell 2
    have k9 := ((P6.out.bx.set_ 0 (.slice none 0 0)).set_ 1 (.int .i64 0)).set_ 2 (.slice none 0 0)
    have HB9 := hide (((P6.out.bl.setCell (p := ⟨X, 0, none⟩) (Nat.le_refl _) (.slice none 0 0)).setCell (p := ⟨X, 1, none⟩) (Nat.le_refl _) (.int .i64 0)).setCell (p := ⟨X, 2, none⟩) (Nat.le_refl _) (.slice none 0 0))
    obtain ⟨w9, hw9⟩ : ∃ z, ((w6.setCell ⟨X, 0, none⟩ (.slice none 0 0)).setCell ⟨X, 1, none⟩ (.int .i64 0)).setCell ⟨X, 2, none⟩ (.slice none 0 0) = z := ⟨_, rfl⟩
    rw [hw9] at k9 HB9
    have u0 : w9.cell? ⟨X, 0, none⟩ = some (.slice none 0 0) := k9.cell 0
    have u1 : w9.cell? ⟨X, 1, none⟩ = some (.int .i64 0) := k9.cell 1
    have u2 : w9.cell? ⟨X, 2, none⟩ = some (.slice none 0 0) := k9.cell 2
    clear k9
    go_wp2_with fail
    exact bodyPost_ret (v := .tuple #[.agg #[.slice none 0 0, .int .i64 0, .slice none 0 0], .int .i64 50]) (by simp [results, Tryd.results20, go_sem, u0, u1, u2]) rfl ⟨.inr ⟨rfl, WHY.out⟩, by rw [HX.out]; exact HB9.out⟩
  have g2 : ((V0.length : Int) != 2) = false := by rw [bne_eq_false_iff_eq]; omega
  obtain ⟨a, b, rfl⟩ : ∃ a b, V0 = [a, b] := by
    match V0, h2 with
    | [a, b], _ => exact ⟨a, b, rfl⟩
  have y0 : w6.cell? ⟨g0, 0, none⟩ = some (.string (bytes a)) := HC0.out 0 (by simp)
  have y1 : w6.cell? ⟨g0, 1, none⟩ = some (.string (bytes b)) := HC0.out 1 (by simp)
  have HBL := hide (HE0.out 1 b rfl)
  clear h2 HC0 hv0
  have EA := bytes_eqc a [118, 97, 114, 115]
  by_cases hea : a = [118, 97, 114, 115]
  rotate_left
  · rw [decide_eq_false hea] at EA
    have WHY := hide (NPV.out (.inr (.inl (by
      intro e
      injection e with e
      exact hea e))))
    clear hea
    have n0 : w6.cell? ⟨Z, 0, none⟩ = some (.slice none 0 0) := P6.out.bz.cell 0
    have n1 : w6.cell? ⟨Z, 1, none⟩ = some (.int .i64 0) := P6.out.bz.cell 1
    have n2 : w6.cell? ⟨Z, 2, none⟩ = some (.slice none 0 0) := P6.out.bz.cell 2
    have f0 := P6.out.bx.frozen 0
    have f1 := P6.out.bx.frozen 1
    have f2 := P6.out.bx.frozen 2
    have z0 : w6.cell? ⟨X, 0, none⟩ = some (.slice none 0 0) := P6.out.bx.cell 0
    have z1 : w6.cell? ⟨X, 1, none⟩ = some (.int .i64 0) := P6.out.bx.cell 1
    have z2 : w6.cell? ⟨X, 2, none⟩ = some (.slice none 0 0) := P6.out.bx.cell 2
    have k9 := ((P6.out.bx.set_ 0 (.slice none 0 0)).set_ 1 (.int .i64 0)).set_ 2 (.slice none 0 0)
    have HB9 := hide (((P6.out.bl.setCell (p := ⟨X, 0, none⟩) (Nat.le_refl _) (.slice none 0 0)).setCell (p := ⟨X, 1, none⟩) (Nat.le_refl _) (.int .i64 0)).setCell (p := ⟨X, 2, none⟩) (Nat.le_refl _) (.slice none 0 0))
    obtain ⟨w9, hw9⟩ : ∃ z, ((w6.setCell ⟨X, 0, none⟩ (.slice none 0 0)).setCell ⟨X, 1, none⟩ (.int .i64 0)).setCell ⟨X, 2, none⟩ (.slice none 0 0) = z := ⟨_, rfl⟩
    rw [hw9] at k9 HB9
    have u0 : w9.cell? ⟨X, 0, none⟩ = some (.slice none 0 0) := k9.cell 0
    have u1 : w9.cell? ⟨X, 1, none⟩ = some (.int .i64 0) := k9.cell 1
    have u2 : w9.cell? ⟨X, 2, none⟩ = some (.slice none 0 0) := k9.cell 2
    clear k9
    go_wp2_with fail
    exact bodyPost_ret (v := .tuple #[.agg #[.slice none 0 0, .int .i64 0, .slice none 0 0], .int .i64 50]) (by simp [results, Tryd.results20, go_sem, u0, u1, u2]) rfl ⟨.inr ⟨rfl, WHY.out⟩, by rw [HX.out]; exact HB9.out⟩
  rw [decide_eq_true hea] at EA
  have HEA := hide hea
  clear hea
  have EB := bytes_eqc (V1[0]'hv1) [97, 114, 114, 97, 121, 115]
  by_cases heb : (V1[0]'hv1) = [97, 114, 114, 97, 121, 115]
  rotate_left
  · rw [decide_eq_false heb] at EB
    have WHY := hide (NPA.out (.inl (by
      rw [List.getElem?_eq_getElem hv1]
      intro e
      injection e with e
      exact heb e)))
    clear heb
    have n0 : w6.cell? ⟨Z, 0, none⟩ = some (.slice none 0 0) := P6.out.bz.cell 0
    have n1 : w6.cell? ⟨Z, 1, none⟩ = some (.int .i64 0) := P6.out.bz.cell 1
    have n2 : w6.cell? ⟨Z, 2, none⟩ = some (.slice none 0 0) := P6.out.bz.cell 2
    have f0 := P6.out.bx.frozen 0
    have f1 := P6.out.bx.frozen 1
    have f2 := P6.out.bx.frozen 2
    have z0 : w6.cell? ⟨X, 0, none⟩ = some (.slice none 0 0) := P6.out.bx.cell 0
    have z1 : w6.cell? ⟨X, 1, none⟩ = some (.int .i64 0) := P6.out.bx.cell 1
    have z2 : w6.cell? ⟨X, 2, none⟩ = some (.slice none 0 0) := P6.out.bx.cell 2
    have k9 := ((P6.out.bx.set_ 0 (.slice none 0 0)).set_ 1 (.int .i64 0)).set_ 2 (.slice none 0 0)
    have HB9 := hide (((P6.out.bl.setCell (p := ⟨X, 0, none⟩) (Nat.le_refl _) (.slice none 0 0)).setCell (p := ⟨X, 1, none⟩) (Nat.le_refl _) (.int .i64 0)).setCell (p := ⟨X, 2, none⟩) (Nat.le_refl _) (.slice none 0 0))
    obtain ⟨w9, hw9⟩ : ∃ z, ((w6.setCell ⟨X, 0, none⟩ (.slice none 0 0)).setCell ⟨X, 1, none⟩ (.int .i64 0)).setCell ⟨X, 2, none⟩ (.slice none 0 0) = z := ⟨_, rfl⟩
    rw [hw9] at k9 HB9
    have u0 : w9.cell? ⟨X, 0, none⟩ = some (.slice none 0 0) := k9.cell 0
    have u1 : w9.cell? ⟨X, 1, none⟩ = some (.int .i64 0) := k9.cell 1
    have u2 : w9.cell? ⟨X, 2, none⟩ = some (.slice none 0 0) := k9.cell 2
    clear k9
    go_wp2_with fail
    exact bodyPost_ret (v := .tuple #[.agg #[.slice none 0 0, .int .i64 0, .slice none 0 0], .int .i64 50]) (by simp [results, Tryd.results20, go_sem, u0, u1, u2]) rfl ⟨.inr ⟨rfl, WHY.out⟩, by rw [HX.out]; exact HB9.out⟩
  rw [decide_eq_true heb] at EB
  have HEB := hide (show V1[0]? = some wA by rw [List.getElem?_eq_getElem hv1, heb]; rfl)
  clear heb
  have NU := hide (num_at b w6 (by have := HBL.out; omega))
  have NS := hide (fun h : (rdB b).2 = true => rdB_sound h)
  have NN := hide (fun h : (rdB b).2 = false => NPV.out (.inr (.inr ⟨b, rfl, h⟩)))
  obtain ⟨nv, hnv⟩ : ∃ z, (rdB b).1 = z := ⟨_, rfl⟩
  obtain ⟨nb, hnb⟩ : ∃ z, (rdB b).2 = z := ⟨_, rfl⟩
  rw [hnv, hnb] at NU
  rw [hnv, hnb] at NS
  rw [hnb] at NN
  clear hnv hnb
  generalize hV10 : (V1[0]'hv1) = vz at *
  clear hV10
  go_wp2_with fail
  refine NU.out.mono ?_
  rintro e w7 ⟨rfl, hb7⟩
  have P7 := hide (P6.out.below hb7)
  have R7 := hide (own_belowR R6.out hb7)
  clear hb7 NU P6 R6 y0 y1 x10 EA EB
  cases nb with
  | false =>
    have WHY := hide (NN.out rfl)
    have n0 : w7.cell? ⟨Z, 0, none⟩ = some (.slice none 0 0) := P7.out.bz.cell 0
    have n1 : w7.cell? ⟨Z, 1, none⟩ = some (.int .i64 0) := P7.out.bz.cell 1
    have n2 : w7.cell? ⟨Z, 2, none⟩ = some (.slice none 0 0) := P7.out.bz.cell 2
    have f0 := P7.out.bx.frozen 0
    have f1 := P7.out.bx.frozen 1
    have f2 := P7.out.bx.frozen 2
    have z0 : w7.cell? ⟨X, 0, none⟩ = some (.slice none 0 0) := P7.out.bx.cell 0
    have z1 : w7.cell? ⟨X, 1, none⟩ = some (.int .i64 0) := P7.out.bx.cell 1
    have z2 : w7.cell? ⟨X, 2, none⟩ = some (.slice none 0 0) := P7.out.bx.cell 2
    have k9 := ((P7.out.bx.set_ 0 (.slice none 0 0)).set_ 1 (.int .i64 0)).set_ 2 (.slice none 0 0)
    have HB9 := hide (((P7.out.bl.setCell (p := ⟨X, 0, none⟩) (Nat.le_refl _) (.slice none 0 0)).setCell (p := ⟨X, 1, none⟩) (Nat.le_refl _) (.int .i64 0)).setCell (p := ⟨X, 2, none⟩) (Nat.le_refl _) (.slice none 0 0))
    obtain ⟨w9, hw9⟩ : ∃ z, ((w7.setCell ⟨X, 0, none⟩ (.slice none 0 0)).setCell ⟨X, 1, none⟩ (.int .i64 0)).setCell ⟨X, 2, none⟩ (.slice none 0 0) = z := ⟨_, rfl⟩
    rw [hw9] at k9 HB9
    have u0 : w9.cell? ⟨X, 0, none⟩ = some (.slice none 0 0) := k9.cell 0
    have u1 : w9.cell? ⟨X, 1, none⟩ = some (.int .i64 0) := k9.cell 1
    have u2 : w9.cell? ⟨X, 2, none⟩ = some (.slice none 0 0) := k9.cell 2
    clear k9
    go_wp2_with fail
    exact bodyPost_ret (v := .tuple #[.agg #[.slice none 0 0, .int .i64 0, .slice none 0 0], .int .i64 50]) (by simp [results, Tryd.results20, go_sem, u0, u1, u2]) rfl ⟨.inr ⟨rfl, WHY.out⟩, by rw [HX.out]; exact HB9.out⟩
  | true =>
  have HNV := hide (NS.out rfl)
  clear NN NS
  have f1 := P7.out.by_.frozen 1
  have y1 : w7.cell? ⟨Y, 1, none⟩ = some (.int .i64 0) := P7.out.by_.cell 1
  have P8 := hide (P7.out.set HXY.out.1 HXY.out.2 1 (.int .i64 nv))
  have R8 := hide (own_setCell (p := ⟨Y, 1, none⟩) R7.out (own_blk_ne R7.out P7.out.by_ (by decide)) (.int .i64 nv))
  obtain ⟨w8, hw8⟩ : ∃ z, w7.setCell ⟨Y, 1, none⟩ (.int .i64 nv) = z := ⟨_, rfl⟩
  rw [hw8] at P8 R8
  clear P7 R7
  go_wp2_with fail
  clear hw8 y1 f1
  go_loopw [11] (fun v11 wr => ∃ (i : Nat) (acc : List Int) (A : Option Addr) (ca : Nat), 1 ≤ i ∧ i ≤ V1.length ∧ v11 = .int .i64 i ∧ Hid (acc.length + 1 = i) ∧ Hid (∀ j (hj : j < acc.length), V1[j + 1]? = some (itoa acc[j])) ∧ Hid (∀ x ∈ acc, -9223372036854775808 ≤ x ∧ x ≤ 9223372036854775807) ∧ Hid (Pst w wr X Y Z #[.slice none 0 0, .int .i64 nv, .slice A acc.length ca] (some ⟨g, 0, none⟩) lc L) ∧ Hid (wr.ownsRow X 9 1 (.slice (some ⟨g1', 0, none⟩) V1.length n1) V1.length (V1.map strV)) ∧ Hid (wr.ownsRow X 3 1 (.slice A acc.length ca) acc.length (intCs acc))) (fun v11 _ => V1.length - (RowKit.intOf v11).toNat)
  case atStart => exact ⟨1, [], none, 0, Nat.le_refl _, hv1, rfl, hide rfl, hide (fun j hj => absurd hj (Nat.not_lt_zero j)), hide (fun x hx => absurd hx List.not_mem_nil), P8, R8, hide ⟨rfl, .inl ⟨rfl, rfl⟩⟩⟩
  case round =>
    obtain ⟨i, acc, A, ca, hi1, hi2, rfl, HAI, HAE, HFI, HPr, HR, HOW⟩ := hrel
    rename World => wr
    have s2 : IntKind.i64.wrap ((i : Int) + 1) = (i : Int) + 1 := by rw [IntKind.wrap_i64]; omega
    by_cases hlt : i < V1.length
    · have hltI : (i : Int) < (V1.length : Int) := by omega
      obtain ⟨gz, eg, hcz⟩ := str_cells HR.out (by omega)
      have eg' : g1' = gz := by injection eg with eg; injection eg
      subst eg'
      have c0 := hcz i hlt
      have hpl := HE1.out i _ (List.getElem?_eq_getElem hlt)
      have NU := hide (num_at V1[i] wr (by omega))
      have NN := hide (fun h : (rdB V1[i]).2 = false => NPA.out (.inr ⟨i, V1[i], hi1, List.getElem?_eq_getElem hlt, h⟩))
      have NS := hide (fun h : (rdB V1[i]).2 = true => And.intro (show V1[i]? = some (itoa (rdB V1[i]).1) by rw [(rdB_sound h).1]; exact List.getElem?_eq_getElem hlt) (rdB_sound h).2)
      generalize V1[i] = one at *
      obtain ⟨z, hz⟩ : ∃ z, (rdB one).1 = z := ⟨_, rfl⟩
      obtain ⟨zb, hzb⟩ : ∃ z, (rdB one).2 = z := ⟨_, rfl⟩
      rw [hz, hzb] at NU NS
      rw [hzb] at NN
      clear hz hzb hpl eg hcz
      go_wp2_with fail
      refine NU.out.mono ?_
      rintro e wy ⟨rfl, hby⟩
      have HPy := hide (HPr.out.below hby)
      have HRy := hide (own_belowR HR.out hby)
      have HOy := hide (own_belowR HOW.out hby)
      clear hby NU HPr HR HOW c0
      cases zb with
      | false =>
        have WHY := hide (NN.out rfl)
        have n0 : wy.cell? ⟨Z, 0, none⟩ = some (.slice none 0 0) := HPy.out.bz.cell 0
        have n1 : wy.cell? ⟨Z, 1, none⟩ = some (.int .i64 0) := HPy.out.bz.cell 1
        have n2 : wy.cell? ⟨Z, 2, none⟩ = some (.slice none 0 0) := HPy.out.bz.cell 2
        have f0 := HPy.out.bx.frozen 0
        have f1 := HPy.out.bx.frozen 1
        have f2 := HPy.out.bx.frozen 2
        have z0 : wy.cell? ⟨X, 0, none⟩ = some (.slice none 0 0) := HPy.out.bx.cell 0
        have z1 : wy.cell? ⟨X, 1, none⟩ = some (.int .i64 0) := HPy.out.bx.cell 1
        have z2 : wy.cell? ⟨X, 2, none⟩ = some (.slice none 0 0) := HPy.out.bx.cell 2
        have k9 := ((HPy.out.bx.set_ 0 (.slice none 0 0)).set_ 1 (.int .i64 0)).set_ 2 (.slice none 0 0)
        have HB9 := hide (((HPy.out.bl.setCell (p := ⟨X, 0, none⟩) (Nat.le_refl _) (.slice none 0 0)).setCell (p := ⟨X, 1, none⟩) (Nat.le_refl _) (.int .i64 0)).setCell (p := ⟨X, 2, none⟩) (Nat.le_refl _) (.slice none 0 0))
        obtain ⟨w9, hw9⟩ : ∃ z, ((wy.setCell ⟨X, 0, none⟩ (.slice none 0 0)).setCell ⟨X, 1, none⟩ (.int .i64 0)).setCell ⟨X, 2, none⟩ (.slice none 0 0) = z := ⟨_, rfl⟩
        rw [hw9] at k9 HB9
        have u0 : w9.cell? ⟨X, 0, none⟩ = some (.slice none 0 0) := k9.cell 0
        have u1 : w9.cell? ⟨X, 1, none⟩ = some (.int .i64 0) := k9.cell 1
        have u2 : w9.cell? ⟨X, 2, none⟩ = some (.slice none 0 0) := k9.cell 2
        clear k9
        go_wp2_with fail
        exact bodyPost_ret (v := .tuple #[.agg #[.slice none 0 0, .int .i64 0, .slice none 0 0], .int .i64 50]) (by simp [results, Tryd.results20, go_sem, u0, u1, u2]) rfl ⟨.inr ⟨rfl, WHY.out⟩, by rw [HX.out]; exact HB9.out⟩
      | true =>
      have HZ := hide (NS.out rfl)
      clear NN NS
      obtain ⟨A4, c4, wz, hrun, hown, hbl, hky⟩ := push_int wy X A ca acc.length acc z rfl HOy.out HPy.out.le (by have := HAI.out; omega)
      have y2 : wy.cell? ⟨Y, 2, none⟩ = some (.slice A acc.length ca) := HPy.out.by_.cell 2
      have HPz := hide (HPy.out.keep hbl hky (by decide) (by decide))
      have HRz := KeepsBut.own hky HRy.out (by decide)
      have y3 : wz.cell? ⟨Y, 2, none⟩ = some (.slice A acc.length ca) := HPz.out.by_.cell 2
      have f2 := HPz.out.by_.frozen 2
      have HOf := hide (own_setCell (p := ⟨Y, 2, none⟩) hown (own_blk_ne hown HPz.out.by_ (by decide)) (.slice A4 (acc.length + 1) c4))
      have HRf := hide (own_setCell (p := ⟨Y, 2, none⟩) HRz (own_blk_ne HRz HPz.out.by_ (by decide)) (.slice A4 (acc.length + 1) c4))
      have HPf := hide (HPz.out.set HXY.out.1 HXY.out.2 2 (.slice A4 (acc.length + 1) c4))
      have RUN := hide hrun
      have hYl := HPy.out.by_.lt
      obtain ⟨wf, hwf⟩ : ∃ x, wz.setCell ⟨Y, 2, none⟩ (.slice A4 (acc.length + 1) c4) = x := ⟨_, rfl⟩
      rw [hwf] at HOf HRf HPf
      clear hrun hown hbl hky HRz
      go_wp2_with (at_builtin; refine Lib.wpList_append_run _ rfl _ _ 23 23 rfl _ _ rfl rfl _ _ RUN.out ?_)
      go_roundw
      case rel => exact ⟨i + 1, acc ++ [z], A4, c4, by omega, by omega, by simp, hide (by rw [List.length_append, List.length_singleton]; have := HAI.out; omega), hide (fun j hj => by
        rw [List.length_append, List.length_singleton] at hj
        rcases Nat.lt_or_ge j acc.length with hh | hh
        · rw [List.getElem_append_left hh]; exact HAE.out j hh
        · have hja : j = acc.length := by omega
          subst hja
          rw [List.getElem_append_right (Nat.le_refl _), HAI.out]
          simp only [Nat.sub_self, List.getElem_cons_zero]
          exact HZ.out.1), hide (fun x hx => by
        rcases List.mem_append.1 hx with h | h
        · exact HFI.out x h
        · rw [List.mem_singleton.1 h]; exact HZ.out.2), hide (by rw [List.length_append, List.length_singleton]; exact HPf.out), HRf, hide (by rw [List.length_append, List.length_singleton]; exact HOf.out)⟩
      case measure => simp [RowKit.intOf] <;> omega
    have hltI : ¬ (i : Int) < (V1.length : Int) := by omega
    have hiV : i = V1.length := by omega
    have HAV : Hid (spl 32 [] l1 = wA :: acc.map itoa) := hide (by
      rw [HV1.out]
      apply List.ext_getElem?
      intro j
      match j with
      | 0 => exact HEB.out
      | j + 1 =>
        rw [List.getElem?_cons_succ, List.getElem?_map]
        rcases Nat.lt_or_ge j acc.length with hh | hh
        · rw [HAE.out j hh, List.getElem?_eq_getElem hh]; rfl
        · rw [List.getElem?_eq_none hh, List.getElem?_eq_none (by have := HAI.out; omega)]; rfl)
    obtain ⟨M, hM⟩ : ∃ M, acc.length = M := ⟨_, rfl⟩
    rw [hM] at HPr HOW
    have HM := hide hM
    have HM80 := hide (show acc.length ≤ 90000 by have := HAI.out; omega)
    obtain ⟨arrs, ha⟩ : ∃ z, acc = z := ⟨_, rfl⟩
    rw [ha] at HFI HAV HOW HM HM80
    clear hM ha HAI HAE HR hiV acc s2
    obtain ⟨w10, hw10⟩ : ∃ z, wr = z := ⟨_, rfl⟩
    rw [hw10] at HPr HOW ⊢
    clear hw10
    go_wp2_with fail
    go_loopw [14] (fun v14 wr => ∃ (k : Nat) (acc : List In) (C : Option Addr) (cc : Nat), 2 ≤ k ∧ k ≤ M1 ∧ v14 = .int .i64 k ∧ Hid (acc.length + 2 = k) ∧ Hid (∀ j (hj : j < acc.length), L[j + 2]? = some (lnI acc[j])) ∧ Hid (∀ x ∈ acc, x.ok ∧ 1 ≤ x.op ∧ x.op ≤ 29) ∧ Hid (Pst w wr X Y Z #[.slice C acc.length cc, .int .i64 nv, .slice A M ca] (some ⟨g, 0, none⟩) lc L) ∧ Hid (wr.ownsRow X 47 2 (.slice C acc.length cc) acc.length (codeCs acc)) ∧ Hid (wr.ownsRow X 3 1 (.slice A M ca) M (intCs arrs))) (fun v14 _ => M1 - (RowKit.intOf v14).toNat)
    case atStart => exact ⟨2, [], none, 0, Nat.le_refl _, by have := HM1.out; omega, rfl, hide rfl, hide (fun j hj => absurd hj (Nat.not_lt_zero j)), hide (fun x hx => absurd hx List.not_mem_nil), HPr, hide ⟨rfl, .inl ⟨rfl, rfl⟩⟩, HOW⟩
    case round =>
      obtain ⟨k, acc, C, cc, hk2, hk3, rfl, HAK, HLE2, HOK, HPk, HCO, HAO⟩ := hrel
      rename World => wr
      have s3 : IntKind.i64.wrap ((k : Int) + 1) = (k : Int) + 1 := by rw [IntKind.wrap_i64]; omega
      by_cases hlt : k < M1
      rotate_left
      · have hltI : ¬ (k : Int) < (M1 : Int) := by omega
        have okc : ∀ x ∈ acc, x.ok := fun x hx => (HOK.out x hx).1
        have hal : acc.length ≤ 90000 := by have := HAK.out; omega
        have TXT := hide (parsed_text (v := nv) (arrs := arrs) (cs := acc) HL.out HL0.out HL1.out (by rw [HV0.out, HEA.out, HNV.out.1]; rfl) HAV.out (by rw [HNL.out]; have := HAK.out; have := HM1.out; omega) (fun j hj => HLE2.out j hj) (by rw [HNL.out, HM1.out]; exact HLST.out))
        have WL := hide (Well.mk (cs := acc) (v := nv) (arrs := arrs) HNV.out.2 HFI.out okc)
        have HAL := hide hal
        have MB := May_b C cc acc nv A ca arrs wr (CodeAt.of_own HCO.out okc) (IntAt.of_own (n := M) HAO.out HFI.out) (by omega) (by have := HM80.out; omega)
        obtain ⟨K, hK⟩ : ∃ K, acc.length = K := ⟨_, rfl⟩
        rw [hK, HM.out] at MB
        rw [hK] at HPk HCO
        have HKL := hide hK
        unfold PrV at MB
        have MB2 := hide MB
        have p0 : wr.cell? ⟨Y, 0, none⟩ = some (.slice C K cc) := HPk.out.by_.cell 0
        have p1 : wr.cell? ⟨Y, 1, none⟩ = some (.int .i64 nv) := HPk.out.by_.cell 1
        have p2 : wr.cell? ⟨Y, 2, none⟩ = some (.slice A M ca) := HPk.out.by_.cell 2
        clear hK MB okc hal
        go_wp2_with fail
        refine MB2.out.mono ?_
        rintro e wm ⟨⟨r, hr, rfl⟩, hbm⟩
        have HPm := hide (HPk.out.below hbm)
        have HCm := hide (own_belowR HCO.out hbm)
        have HAm := hide (own_belowR HAO.out hbm)
        clear hbm HPk HCO HAO p0 p1 p2 MB2
        cases r with
        | none =>
          have WHY := hide (np_may TXT.out WL.out (fun x hx => (HOK.out x hx).2) hr)
          clear hr
          have n0 : wm.cell? ⟨Z, 0, none⟩ = some (.slice none 0 0) := HPm.out.bz.cell 0
          have n1 : wm.cell? ⟨Z, 1, none⟩ = some (.int .i64 0) := HPm.out.bz.cell 1
          have n2 : wm.cell? ⟨Z, 2, none⟩ = some (.slice none 0 0) := HPm.out.bz.cell 2
          have f0 := HPm.out.bx.frozen 0
          have f1 := HPm.out.bx.frozen 1
          have f2 := HPm.out.bx.frozen 2
          have z0 : wm.cell? ⟨X, 0, none⟩ = some (.slice none 0 0) := HPm.out.bx.cell 0
          have z1 : wm.cell? ⟨X, 1, none⟩ = some (.int .i64 0) := HPm.out.bx.cell 1
          have z2 : wm.cell? ⟨X, 2, none⟩ = some (.slice none 0 0) := HPm.out.bx.cell 2
          have k9 := ((HPm.out.bx.set_ 0 (.slice none 0 0)).set_ 1 (.int .i64 0)).set_ 2 (.slice none 0 0)
          have HB9 := hide (((HPm.out.bl.setCell (p := ⟨X, 0, none⟩) (Nat.le_refl _) (.slice none 0 0)).setCell (p := ⟨X, 1, none⟩) (Nat.le_refl _) (.int .i64 0)).setCell (p := ⟨X, 2, none⟩) (Nat.le_refl _) (.slice none 0 0))
          obtain ⟨w9, hw9⟩ : ∃ z, ((wm.setCell ⟨X, 0, none⟩ (.slice none 0 0)).setCell ⟨X, 1, none⟩ (.int .i64 0)).setCell ⟨X, 2, none⟩ (.slice none 0 0) = z := ⟨_, rfl⟩
          rw [hw9] at k9 HB9
          have u0 : w9.cell? ⟨X, 0, none⟩ = some (.slice none 0 0) := k9.cell 0
          have u1 : w9.cell? ⟨X, 1, none⟩ = some (.int .i64 0) := k9.cell 1
          have u2 : w9.cell? ⟨X, 2, none⟩ = some (.slice none 0 0) := k9.cell 2
          clear k9
          go_wp2_with fail
          exact bodyPost_ret (v := .tuple #[.agg #[.slice none 0 0, .int .i64 0, .slice none 0 0], .int .i64 50]) (by simp [results, Tryd.results20, go_sem, u0, u1, u2]) rfl ⟨.inr ⟨rfl, WHY.out⟩, by rw [HX.out]; exact HB9.out⟩
        | some hs =>
          have HRR := hide hr
          clear hr
          have p0 : wm.cell? ⟨Y, 0, none⟩ = some (.slice C K cc) := HPm.out.by_.cell 0
          have p1 : wm.cell? ⟨Y, 1, none⟩ = some (.int .i64 nv) := HPm.out.by_.cell 1
          have p2 : wm.cell? ⟨Y, 2, none⟩ = some (.slice A M ca) := HPm.out.by_.cell 2
          have f0 := HPm.out.bx.frozen 0
          have f1 := HPm.out.bx.frozen 1
          have f2 := HPm.out.bx.frozen 2
          have z0 : wm.cell? ⟨X, 0, none⟩ = some (.slice none 0 0) := HPm.out.bx.cell 0
          have z1 : wm.cell? ⟨X, 1, none⟩ = some (.int .i64 0) := HPm.out.bx.cell 1
          have z2 : wm.cell? ⟨X, 2, none⟩ = some (.slice none 0 0) := HPm.out.bx.cell 2
          have k9 := ((HPm.out.bx.set_ 0 (.slice C K cc)).set_ 1 (.int .i64 nv)).set_ 2 (.slice A M ca)
          have HB9 := hide (((HPm.out.bl.setCell (p := ⟨X, 0, none⟩) (Nat.le_refl _) (.slice C K cc)).setCell (p := ⟨X, 1, none⟩) (Nat.le_refl _) (.int .i64 nv)).setCell (p := ⟨X, 2, none⟩) (Nat.le_refl _) (.slice A M ca))
          have nc := own_blk_ne HCm.out HPm.out.bx (by decide)
          have na := own_blk_ne HAm.out HPm.out.bx (by decide)
          have oc := own_setCell (p := ⟨X, 2, none⟩) (own_setCell (p := ⟨X, 1, none⟩) (own_setCell (p := ⟨X, 0, none⟩) HCm.out nc (.slice C K cc)) nc (.int .i64 nv)) nc (.slice A M ca)
          have oa := own_setCell (p := ⟨X, 2, none⟩) (own_setCell (p := ⟨X, 1, none⟩) (own_setCell (p := ⟨X, 0, none⟩) HAm.out na (.slice C K cc)) na (.int .i64 nv)) na (.slice A M ca)
          obtain ⟨w9, hw9⟩ : ∃ z, ((wm.setCell ⟨X, 0, none⟩ (.slice C K cc)).setCell ⟨X, 1, none⟩ (.int .i64 nv)).setCell ⟨X, 2, none⟩ (.slice A M ca) = z := ⟨_, rfl⟩
          rw [hw9] at k9 HB9 oc oa
          have OWN := hide (show Own w9 X C cc acc A ca arrs from ⟨by rw [HKL.out]; exact oc, by rw [HM.out]; exact oa⟩)
          have u0 : w9.cell? ⟨X, 0, none⟩ = some (.slice C K cc) := k9.cell 0
          have u1 : w9.cell? ⟨X, 1, none⟩ = some (.int .i64 nv) := k9.cell 1
          have u2 : w9.cell? ⟨X, 2, none⟩ = some (.slice A M ca) := k9.cell 2
          clear k9 nc na oc oa
          have FIN : Hid (PbPost s w (.returned (.tuple #[.agg #[.slice C K cc, .int .i64 nv, .slice A M ca], .int .i64 0])) w9) := hide ⟨.inl ⟨nv, arrs, acc, hs, C, cc, A, ca, HRR.out, TXT.out, WL.out, HM80.out, HAL.out, by rw [HKL.out, HM.out]; rfl, by rw [HX.out]; exact OWN.out⟩, by rw [HX.out]; exact HB9.out⟩
          go_wp2_with fail
          exact bodyPost_ret (v := .tuple #[.agg #[.slice C K cc, .int .i64 nv, .slice A M ca], .int .i64 0]) (by simp [results, Tryd.results20, go_sem, u0, u1, u2]) rfl FIN.out
      have hltI : (k : Int) < (M1 : Int) := by omega
      have hkN : (k : Int) < (NL : Int) := by omega
      obtain ⟨li, hli⟩ : ∃ x, L[k]? = some x := ⟨_, List.getElem?_eq_getElem (by have := HNL.out; have := HM1.out; omega)⟩
      have c0 := LC.out wr _ HPk.out k li hli
      have SPK := hide (split_at 32 32 rfl li wr (by have := HLE.out k li hli; omega))
      have SLK := spl_len 32 li []
      have hpk := HLE.out k li hli
      have NPI := hide (fun h => np_I HL.out hk2 (by rw [HNL.out]; have := HM1.out; omega) hli h)
      have LN1 := hide (fun a (o : Nat) h1 h2 => show L[k]? = some (lnI ⟨(o : Int), 0⟩) by rw [hli, ← ln_one (l := li) (a := a) h1 h2])
      have LN2 := hide (fun a b (o : Nat) (z : Int) h1 h2 h3 h4 => show L[k]? = some (lnI ⟨(o : Int), z⟩) by rw [hli, ← ln_two (l := li) (a := a) (b := b) h1 h2 h3 h4])
      have hw0 : 0 < (spl 32 [] li).length := by
        obtain ⟨p, r, e⟩ := spl_pos 32 li []
        rw [e]
        simp
      obtain ⟨Wp, hWp⟩ : ∃ L, spl 32 [] li = L := ⟨_, rfl⟩
      rw [hWp] at SPK SLK hw0 NPI
      simp only [hWp] at LN1 LN2
      have HEK := hide (show ∀ (i : Nat) (p : List UInt8), Wp[i]? = some p → p.length ≤ 80000 from fun i p h => by have := SLK.2 p (List.mem_of_getElem? h); rw [List.length_nil] at this; omega)
      have hWl : Wp.length ≤ 80001 := by have := SLK.1; omega
      obtain ⟨K, hK⟩ : ∃ K, acc.length = K := ⟨_, rfl⟩
      rw [hK] at HPk HCO
      have HKL := hide hK
      have HLI := hide hli
      clear hK SLK hpk hli hWp
      go_wp2_with fail
      refine SPK.out.mono ?_
      rintro e w11 ⟨⟨A0, n0, rfl, ho0⟩, hb11⟩
      have HP11 := hide (HPk.out.below hb11)
      have HC11 := hide (own_belowR HCO.out hb11)
      have HA11 := hide (own_belowR HAO.out hb11)
      obtain ⟨gw, rfl, hcw⟩ := str_cells ho0 hw0
      have HGW := hide (show wr.heap.size ≤ gw ∧ gw < w11.heap.size from by
        obtain ⟨q1, q2, _⟩ := own_block ho0 (g := gw) rfl
        exact ⟨q1, q2⟩)
      have HCW := hide hcw
      have e0 := hcw 0 hw0
      have hw0I : (0 : Int) < (Wp.length : Int) := by omega
      obtain ⟨a, ha⟩ : ∃ a, Wp[0]'hw0 = a := ⟨_, rfl⟩
      rw [ha] at e0
      have HA0 := hide (show Wp[0]? = some a by rw [List.getElem?_eq_getElem hw0, ha])
      have OP := hide (op_b a w11)
      have OC := hide (opV_cases a)
      obtain ⟨o, hoo⟩ : ∃ o, opV a = o := ⟨_, rfl⟩
      rw [hoo] at OP OC
      clear ho0 hb11 SPK hcw ha hoo c0 HPk HCO HAO
      go_wp2_with fail
      refine OP.out.mono ?_
      rintro e w12 ⟨rfl, hb12⟩
      have ha13 := (Below.refl w12.heap.size w12).alloc (Nat.le_refl _) (.cells #[.int .u8 (o : Int), .int .i64 0] 47)
      have hb13 := hb12.trans (ha13.mono hb12.size)
      have HP13 := hide (HP11.out.below hb13)
      have HC13 := hide (own_belowR HC11.out hb13)
      have HA13 := hide (own_belowR HA11.out hb13)
      have I13 := hide (Blk.new w12 47 #[.int .u8 (o : Int), .int .i64 0])
      have HCW13 := hide (fun i (hi : i < Wp.length) => (hb13.cell (p := ⟨gw, i, none⟩) HGW.out.2).trans (HCW.out i hi))
      have HTT := hide (show w11.heap.size ≤ w12.heap.size from hb12.size)
      have HXW := hide HP11.out.le
      have HCN : Hid (∀ gq, (Value.slice C K cc).ownBlock = some gq → gq < w11.heap.size) := hide (fun gq h => (own_block HC11.out h).2.1)
      go_upto_region 26 with (fail)
      obtain ⟨w13, hw13⟩ : ∃ z, w12.alloc (.cells #[.int .u8 (o : Int), .int .i64 0] 47) = z := ⟨_, rfl⟩
      rw [hw13] at HP13 HC13 HA13 I13 HCW13 ⊢
      obtain ⟨TT, hTT⟩ : ∃ t, w12.heap.size = t := ⟨_, rfl⟩
      rw [hTT] at I13 HTT ⊢
      have j0 : w13.cell? ⟨TT, 0, none⟩ = some (.int .u8 (o : Int)) := I13.out.cell 0
      clear ha13 hb13 hb12 hw13 hTT HP11 HC11 HA11 e0 OP HCW
      by_cases hbig : 2 < Wp.length
      · have g3 : (2 : Int) < (Wp.length : Int) := by omega
        have WHY := hide (NPI.out (.inl hbig))
        clear hbig
        have n0 : w13.cell? ⟨Z, 0, none⟩ = some (.slice none 0 0) := HP13.out.bz.cell 0
        have n1 : w13.cell? ⟨Z, 1, none⟩ = some (.int .i64 0) := HP13.out.bz.cell 1
        have n2 : w13.cell? ⟨Z, 2, none⟩ = some (.slice none 0 0) := HP13.out.bz.cell 2
        have f0 := HP13.out.bx.frozen 0
        have f1 := HP13.out.bx.frozen 1
        have f2 := HP13.out.bx.frozen 2
        have z0 : w13.cell? ⟨X, 0, none⟩ = some (.slice none 0 0) := HP13.out.bx.cell 0
        have z1 : w13.cell? ⟨X, 1, none⟩ = some (.int .i64 0) := HP13.out.bx.cell 1
        have z2 : w13.cell? ⟨X, 2, none⟩ = some (.slice none 0 0) := HP13.out.bx.cell 2
        have k9 := ((HP13.out.bx.set_ 0 (.slice none 0 0)).set_ 1 (.int .i64 0)).set_ 2 (.slice none 0 0)
        have HB9 := hide (((HP13.out.bl.setCell (p := ⟨X, 0, none⟩) (Nat.le_refl _) (.slice none 0 0)).setCell (p := ⟨X, 1, none⟩) (Nat.le_refl _) (.int .i64 0)).setCell (p := ⟨X, 2, none⟩) (Nat.le_refl _) (.slice none 0 0))
        obtain ⟨w9, hw9⟩ : ∃ z, ((w13.setCell ⟨X, 0, none⟩ (.slice none 0 0)).setCell ⟨X, 1, none⟩ (.int .i64 0)).setCell ⟨X, 2, none⟩ (.slice none 0 0) = z := ⟨_, rfl⟩
        rw [hw9] at k9 HB9
        have u0 : w9.cell? ⟨X, 0, none⟩ = some (.slice none 0 0) := k9.cell 0
        have u1 : w9.cell? ⟨X, 1, none⟩ = some (.int .i64 0) := k9.cell 1
        have u2 : w9.cell? ⟨X, 2, none⟩ = some (.slice none 0 0) := k9.cell 2
        clear k9
        go_wp2_with fail
        exact bodyPost_ret (v := .tuple #[.agg #[.slice none 0 0, .int .i64 0, .slice none 0 0], .int .i64 50]) (by simp [results, Tryd.results20, go_sem, u0, u1, u2]) rfl ⟨.inr ⟨rfl, WHY.out⟩, by rw [HX.out]; exact HB9.out⟩
      have g3 : ¬ (2 : Int) < (Wp.length : Int) := by omega
      rcases OC.out with ⟨ho0, hno⟩ | ⟨ho1, ho2, hnm⟩
      · have g4 : ((o : Int) == 0) = true := by simp [ho0]
        have WHY := hide (NPI.out (.inr (.inl ⟨a, HA0.out, hno⟩)))
        clear ho0 hno
        have n0 : w13.cell? ⟨Z, 0, none⟩ = some (.slice none 0 0) := HP13.out.bz.cell 0
        have n1 : w13.cell? ⟨Z, 1, none⟩ = some (.int .i64 0) := HP13.out.bz.cell 1
        have n2 : w13.cell? ⟨Z, 2, none⟩ = some (.slice none 0 0) := HP13.out.bz.cell 2
        have f0 := HP13.out.bx.frozen 0
        have f1 := HP13.out.bx.frozen 1
        have f2 := HP13.out.bx.frozen 2
        have z0 : w13.cell? ⟨X, 0, none⟩ = some (.slice none 0 0) := HP13.out.bx.cell 0
        have z1 : w13.cell? ⟨X, 1, none⟩ = some (.int .i64 0) := HP13.out.bx.cell 1
        have z2 : w13.cell? ⟨X, 2, none⟩ = some (.slice none 0 0) := HP13.out.bx.cell 2
        have k9 := ((HP13.out.bx.set_ 0 (.slice none 0 0)).set_ 1 (.int .i64 0)).set_ 2 (.slice none 0 0)
        have HB9 := hide (((HP13.out.bl.setCell (p := ⟨X, 0, none⟩) (Nat.le_refl _) (.slice none 0 0)).setCell (p := ⟨X, 1, none⟩) (Nat.le_refl _) (.int .i64 0)).setCell (p := ⟨X, 2, none⟩) (Nat.le_refl _) (.slice none 0 0))
        obtain ⟨w9, hw9⟩ : ∃ z, ((w13.setCell ⟨X, 0, none⟩ (.slice none 0 0)).setCell ⟨X, 1, none⟩ (.int .i64 0)).setCell ⟨X, 2, none⟩ (.slice none 0 0) = z := ⟨_, rfl⟩
        rw [hw9] at k9 HB9
        have u0 : w9.cell? ⟨X, 0, none⟩ = some (.slice none 0 0) := k9.cell 0
        have u1 : w9.cell? ⟨X, 1, none⟩ = some (.int .i64 0) := k9.cell 1
        have u2 : w9.cell? ⟨X, 2, none⟩ = some (.slice none 0 0) := k9.cell 2
        clear k9
        go_wp2_with fail
        exact bodyPost_ret (v := .tuple #[.agg #[.slice none 0 0, .int .i64 0, .slice none 0 0], .int .i64 50]) (by simp [results, Tryd.results20, go_sem, u0, u1, u2]) rfl ⟨.inr ⟨rfl, WHY.out⟩, by rw [HX.out]; exact HB9.out⟩
      have g4 : ((o : Int) == 0) = false := by rw [beq_eq_false_iff_ne]; omega
      have HNM := hide hnm
      have HOO := hide (And.intro ho1 ho2)
      clear hnm
      by_cases htwo : Wp.length = 2
      · have g5 : ((Wp.length : Int) == 2) = true := by rw [beq_iff_eq]; omega
        have e1 := HCW13.out 1 (by omega)
        have h1I : (1 : Int) < (Wp.length : Int) := by omega
        obtain ⟨b2, hb2⟩ : ∃ b, Wp[1]'(by omega) = b := ⟨_, rfl⟩
        rw [hb2] at e1
        have HB2e : Hid (Wp[1]? = some b2) := hide (by rw [List.getElem?_eq_getElem (by omega), hb2])
        have HWE : Hid (Wp = [a, b2]) := hide (by
          have q0 := HA0.out
          have q1 := HB2e.out
          match Wp, htwo with
          | [x, y], _ =>
            simp only [List.getElem?_cons_zero, List.getElem?_cons_succ] at q0 q1
            injection q0 with q0
            injection q1 with q1
            rw [q0, q1])
        have NU := hide (num_at b2 w13 (by have := HEK.out 1 b2 HB2e.out; omega))
        have NS := hide (fun h : (rdB b2).2 = true => rdB_sound h)
        have NN := hide (fun h : (rdB b2).2 = false ∨ (rdB b2).1 = 0 => NPI.out (.inr (.inr ⟨b2, HB2e.out, h⟩)))
        obtain ⟨z, hz⟩ : ∃ z, (rdB b2).1 = z := ⟨_, rfl⟩
        obtain ⟨zb, hzb⟩ : ∃ z, (rdB b2).2 = z := ⟨_, rfl⟩
        rw [hz, hzb] at NU NS NN
        clear hz hzb hb2 htwo
        go_wp2_with fail
        refine NU.out.mono ?_
        rintro e w14 ⟨rfl, hb14⟩
        have HP14 := hide (HP13.out.below hb14)
        have HC14 := hide (own_belowR HC13.out hb14)
        have HA14 := hide (own_belowR HA13.out hb14)
        have I14 := hide (I13.out.below hb14 I13.out.lt)
        clear hb14 NU HP13 HC13 HA13 I13 e1 j0
        cases zb with
        | false =>
          have WHY := hide (NN.out (.inl rfl))
          have n0 : w14.cell? ⟨Z, 0, none⟩ = some (.slice none 0 0) := HP14.out.bz.cell 0
          have n1 : w14.cell? ⟨Z, 1, none⟩ = some (.int .i64 0) := HP14.out.bz.cell 1
          have n2 : w14.cell? ⟨Z, 2, none⟩ = some (.slice none 0 0) := HP14.out.bz.cell 2
          have f0 := HP14.out.bx.frozen 0
          have f1 := HP14.out.bx.frozen 1
          have f2 := HP14.out.bx.frozen 2
          have z0 : w14.cell? ⟨X, 0, none⟩ = some (.slice none 0 0) := HP14.out.bx.cell 0
          have z1 : w14.cell? ⟨X, 1, none⟩ = some (.int .i64 0) := HP14.out.bx.cell 1
          have z2 : w14.cell? ⟨X, 2, none⟩ = some (.slice none 0 0) := HP14.out.bx.cell 2
          have k9 := ((HP14.out.bx.set_ 0 (.slice none 0 0)).set_ 1 (.int .i64 0)).set_ 2 (.slice none 0 0)
          have HB9 := hide (((HP14.out.bl.setCell (p := ⟨X, 0, none⟩) (Nat.le_refl _) (.slice none 0 0)).setCell (p := ⟨X, 1, none⟩) (Nat.le_refl _) (.int .i64 0)).setCell (p := ⟨X, 2, none⟩) (Nat.le_refl _) (.slice none 0 0))
          obtain ⟨w9, hw9⟩ : ∃ z, ((w14.setCell ⟨X, 0, none⟩ (.slice none 0 0)).setCell ⟨X, 1, none⟩ (.int .i64 0)).setCell ⟨X, 2, none⟩ (.slice none 0 0) = z := ⟨_, rfl⟩
          rw [hw9] at k9 HB9
          have u0 : w9.cell? ⟨X, 0, none⟩ = some (.slice none 0 0) := k9.cell 0
          have u1 : w9.cell? ⟨X, 1, none⟩ = some (.int .i64 0) := k9.cell 1
          have u2 : w9.cell? ⟨X, 2, none⟩ = some (.slice none 0 0) := k9.cell 2
          clear k9
          go_wp2_with fail
          exact bodyPost_ret (v := .tuple #[.agg #[.slice none 0 0, .int .i64 0, .slice none 0 0], .int .i64 50]) (by simp [results, Tryd.results20, go_sem, u0, u1, u2]) rfl ⟨.inr ⟨rfl, WHY.out⟩, by rw [HX.out]; exact HB9.out⟩
        | true =>
        by_cases hz0 : z = 0
        · have g6 : (z == 0) = true := by simp [hz0]
          have WHY := hide (NN.out (.inr hz0))
          clear hz0
          have n0 : w14.cell? ⟨Z, 0, none⟩ = some (.slice none 0 0) := HP14.out.bz.cell 0
          have n1 : w14.cell? ⟨Z, 1, none⟩ = some (.int .i64 0) := HP14.out.bz.cell 1
          have n2 : w14.cell? ⟨Z, 2, none⟩ = some (.slice none 0 0) := HP14.out.bz.cell 2
          have f0 := HP14.out.bx.frozen 0
          have f1 := HP14.out.bx.frozen 1
          have f2 := HP14.out.bx.frozen 2
          have z0 : w14.cell? ⟨X, 0, none⟩ = some (.slice none 0 0) := HP14.out.bx.cell 0
          have z1 : w14.cell? ⟨X, 1, none⟩ = some (.int .i64 0) := HP14.out.bx.cell 1
          have z2 : w14.cell? ⟨X, 2, none⟩ = some (.slice none 0 0) := HP14.out.bx.cell 2
          have k9 := ((HP14.out.bx.set_ 0 (.slice none 0 0)).set_ 1 (.int .i64 0)).set_ 2 (.slice none 0 0)
          have HB9 := hide (((HP14.out.bl.setCell (p := ⟨X, 0, none⟩) (Nat.le_refl _) (.slice none 0 0)).setCell (p := ⟨X, 1, none⟩) (Nat.le_refl _) (.int .i64 0)).setCell (p := ⟨X, 2, none⟩) (Nat.le_refl _) (.slice none 0 0))
          obtain ⟨w9, hw9⟩ : ∃ z, ((w14.setCell ⟨X, 0, none⟩ (.slice none 0 0)).setCell ⟨X, 1, none⟩ (.int .i64 0)).setCell ⟨X, 2, none⟩ (.slice none 0 0) = z := ⟨_, rfl⟩
          rw [hw9] at k9 HB9
          have u0 : w9.cell? ⟨X, 0, none⟩ = some (.slice none 0 0) := k9.cell 0
          have u1 : w9.cell? ⟨X, 1, none⟩ = some (.int .i64 0) := k9.cell 1
          have u2 : w9.cell? ⟨X, 2, none⟩ = some (.slice none 0 0) := k9.cell 2
          clear k9
          go_wp2_with fail
          exact bodyPost_ret (v := .tuple #[.agg #[.slice none 0 0, .int .i64 0, .slice none 0 0], .int .i64 50]) (by simp [results, Tryd.results20, go_sem, u0, u1, u2]) rfl ⟨.inr ⟨rfl, WHY.out⟩, by rw [HX.out]; exact HB9.out⟩
        have g6 : (z == 0) = false := by rw [beq_eq_false_iff_ne]; exact hz0
        have HZS := hide (NS.out rfl)
        have HLN : Hid (L[k]? = some (lnI ⟨(o : Int), z⟩)) := hide (LN2.out a b2 o z HWE.out HNM.out hz0 HZS.out.1)
        have j1 : w14.cell? ⟨TT, 1, none⟩ = some (.int .i64 0) := I14.out.cell 1
        have f1 := I14.out.frozen 1
        have hXT : X ≤ TT := Nat.le_trans HXW.out HTT.out
        have I15 := hide (I14.out.set_ 1 (.int .i64 z))
        have nP : ∀ {t : Nat} {pc : Array Value}, Blk w14 t 25 pc → t ≠ TT := fun h => h.ne_ I14.out (by decide)
        have P15 : Hid (Pst w (w14.setCell ⟨TT, 1, none⟩ (.int .i64 z)) X Y Z #[.slice C K cc, .int .i64 nv, .slice A M ca] (some ⟨g, 0, none⟩) lc L) := hide ⟨HP14.out.bx.far (p := ⟨TT, 1, none⟩) (nP HP14.out.bx) _, HP14.out.by_.far (p := ⟨TT, 1, none⟩) (nP HP14.out.by_) _, HP14.out.bz.far (p := ⟨TT, 1, none⟩) (nP HP14.out.bz) _, own_setCell (p := ⟨TT, 1, none⟩) HP14.out.lr (own_blk_ne HP14.out.lr I14.out (by decide)) _, HP14.out.bl.setCell (p := ⟨TT, 1, none⟩) hXT _, by simpa [World.setCell] using HP14.out.le⟩
        have C15 := hide (own_setCell (p := ⟨TT, 1, none⟩) HC14.out (fun e => by have := HCN.out _ e; have h2 := HTT.out; have h3 : ((⟨TT, 1, none⟩ : Addr).block) = TT := rfl; rw [h3] at this; omega) (.int .i64 z))
        have A15 := hide (own_setCell (p := ⟨TT, 1, none⟩) HA14.out (own_blk_ne HA14.out I14.out (by decide)) (.int .i64 z))
        obtain ⟨w15, hw15⟩ : ∃ x, w14.setCell ⟨TT, 1, none⟩ (.int .i64 z) = x := ⟨_, rfl⟩
        rw [hw15] at P15 I15 C15 A15
        have j0' : w15.cell? ⟨TT, 0, none⟩ = some (.int .u8 (o : Int)) := I15.out.cell 0
        have j1' : w15.cell? ⟨TT, 1, none⟩ = some (.int .i64 z) := I15.out.cell 1
        clear hz0 NN NS HP14 HC14 HA14 I14
        have y0 : w15.cell? ⟨Y, 0, none⟩ = some (.slice C K cc) := P15.out.by_.cell 0
        obtain ⟨C4, c4, wz, hrun, hown, hbl, hky⟩ := push_in w15 X C cc K acc ⟨(o : Int), z⟩ HKL.out C15.out P15.out.le (by have := HKL.out; have := HAK.out; omega)
        dsimp only at hrun
        have HPz := hide (P15.out.keep hbl hky (by decide) (by decide))
        have y3 : wz.cell? ⟨Y, 0, none⟩ = some (.slice C K cc) := HPz.out.by_.cell 0
        have f0 := HPz.out.by_.frozen 0
        have aoz := KeepsBut.own hky A15.out (by decide)
        have HCf := hide (own_setCell (p := ⟨Y, 0, none⟩) hown (own_blk_ne hown HPz.out.by_ (by decide)) (.slice C4 (K + 1) c4))
        have HAf := hide (own_setCell (p := ⟨Y, 0, none⟩) aoz (own_blk_ne aoz HPz.out.by_ (by decide)) (.slice C4 (K + 1) c4))
        have HPf := hide (HPz.out.set HXY.out.1 HXY.out.2 0 (.slice C4 (K + 1) c4))
        have RUN := hide hrun
        have hYl := P15.out.by_.lt
        have hTl := I15.out.lt
        have HXO : Hid ((⟨(o : Int), z⟩ : In).ok ∧ 1 ≤ (⟨(o : Int), z⟩ : In).op ∧ (⟨(o : Int), z⟩ : In).op ≤ 29) := hide ⟨⟨by show (0 : Int) ≤ (o : Int); omega, by show (o : Int) ≤ 255; have := HOO.out.2; omega, HZS.out.2.1, HZS.out.2.2⟩, by show (1 : Int) ≤ (o : Int); have := HOO.out.1; omega, by show (o : Int) ≤ 29; have := HOO.out.2; omega⟩
        obtain ⟨wf, hwf⟩ : ∃ x, wz.setCell ⟨Y, 0, none⟩ (.slice C4 (K + 1) c4) = x := ⟨_, rfl⟩
        rw [hwf] at HCf HAf HPf
        clear hrun hown hbl hky aoz
        go_wp2_with (at_builtin; refine Lib.wpList_append_run _ rfl _ _ 22 22 rfl _ _ rfl rfl _ _ RUN.out ?_)
        go_roundw
        case rel => exact ⟨k + 1, acc ++ [⟨(o : Int), z⟩], C4, c4, by omega, by omega, by simp, hide (by rw [List.length_append, List.length_singleton]; have := HAK.out; omega), hide (fun j hj => by
          rw [List.length_append, List.length_singleton] at hj
          rcases Nat.lt_or_ge j acc.length with hh | hh
          · rw [List.getElem_append_left hh]; exact HLE2.out j hh
          · have hja : j = acc.length := by omega
            subst hja
            rw [List.getElem_append_right (Nat.le_refl _), HAK.out]
            simp only [Nat.sub_self, List.getElem_cons_zero]
            exact HLN.out), hide (fun x hx => by
          rcases List.mem_append.1 hx with h | h
          · exact HOK.out x h
          · rw [List.mem_singleton.1 h]; exact HXO.out), hide (by rw [List.length_append, List.length_singleton, HKL.out]; exact HPf.out), hide (by rw [List.length_append, List.length_singleton, HKL.out]; exact HCf.out), HAf⟩
        case measure => simp [RowKit.intOf] <;> omega
      · have g5 : ((Wp.length : Int) == 2) = false := by rw [beq_eq_false_iff_ne]; omega
        have HWE : Hid (Wp = [a]) := hide (by
          have q0 := HA0.out
          match Wp, hw0, hbig, htwo with
          | [x], _, _, _ =>
            simp only [List.getElem?_cons_zero] at q0
            injection q0 with q0
            rw [q0]
          | [_, _], _, _, h => exact absurd rfl h
          | _ :: _ :: _ :: _, _, h, _ => exact absurd (by simp only [List.length_cons]; omega) h)
        have HLN : Hid (L[k]? = some (lnI ⟨(o : Int), 0⟩)) := hide (LN1.out a o HWE.out HNM.out)
        have j1 : w13.cell? ⟨TT, 1, none⟩ = some (.int .i64 0) := I13.out.cell 1
        clear htwo
        have y0 : w13.cell? ⟨Y, 0, none⟩ = some (.slice C K cc) := HP13.out.by_.cell 0
        obtain ⟨C4, c4, wz, hrun, hown, hbl, hky⟩ := push_in w13 X C cc K acc ⟨(o : Int), 0⟩ HKL.out HC13.out HP13.out.le (by have := HKL.out; have := HAK.out; omega)
        dsimp only at hrun
        have HPz := hide (HP13.out.keep hbl hky (by decide) (by decide))
        have y3 : wz.cell? ⟨Y, 0, none⟩ = some (.slice C K cc) := HPz.out.by_.cell 0
        have f0 := HPz.out.by_.frozen 0
        have aoz := KeepsBut.own hky HA13.out (by decide)
        have HCf := hide (own_setCell (p := ⟨Y, 0, none⟩) hown (own_blk_ne hown HPz.out.by_ (by decide)) (.slice C4 (K + 1) c4))
        have HAf := hide (own_setCell (p := ⟨Y, 0, none⟩) aoz (own_blk_ne aoz HPz.out.by_ (by decide)) (.slice C4 (K + 1) c4))
        have HPf := hide (HPz.out.set HXY.out.1 HXY.out.2 0 (.slice C4 (K + 1) c4))
        have RUN := hide hrun
        have hYl := HP13.out.by_.lt
        have hTl := I13.out.lt
        have HXO : Hid ((⟨(o : Int), 0⟩ : In).ok ∧ 1 ≤ (⟨(o : Int), 0⟩ : In).op ∧ (⟨(o : Int), 0⟩ : In).op ≤ 29) := hide ⟨⟨by show (0 : Int) ≤ (o : Int); omega, by show (o : Int) ≤ 255; have := HOO.out.2; omega, by show (-9223372036854775808 : Int) ≤ 0; omega, by show (0 : Int) ≤ 9223372036854775807; omega⟩, by show (1 : Int) ≤ (o : Int); have := HOO.out.1; omega, by show (o : Int) ≤ 29; have := HOO.out.2; omega⟩
        obtain ⟨wf, hwf⟩ : ∃ x, wz.setCell ⟨Y, 0, none⟩ (.slice C4 (K + 1) c4) = x := ⟨_, rfl⟩
        rw [hwf] at HCf HAf HPf
        clear hrun hown hbl hky aoz
        go_wp2_with (at_builtin; refine Lib.wpList_append_run _ rfl _ _ 22 22 rfl _ _ rfl rfl _ _ RUN.out ?_)
        go_roundw
        case rel => exact ⟨k + 1, acc ++ [⟨(o : Int), 0⟩], C4, c4, by omega, by omega, by simp, hide (by rw [List.length_append, List.length_singleton]; have := HAK.out; omega), hide (fun j hj => by
          rw [List.length_append, List.length_singleton] at hj
          rcases Nat.lt_or_ge j acc.length with hh | hh
          · rw [List.getElem_append_left hh]; exact HLE2.out j hh
          · have hja : j = acc.length := by omega
            subst hja
            rw [List.getElem_append_right (Nat.le_refl _), HAK.out]
            simp only [Nat.sub_self, List.getElem_cons_zero]
            exact HLN.out), hide (fun x hx => by
          rcases List.mem_append.1 hx with h | h
          · exact HOK.out x h
          · rw [List.mem_singleton.1 h]; exact HXO.out), hide (by rw [List.length_append, List.length_singleton, HKL.out]; exact HPf.out), hide (by rw [List.length_append, List.length_singleton, HKL.out]; exact HCf.out), HAf⟩
        case measure => simp [RowKit.intOf] <;> omega
end Cod
end Go.Proofs.YtegpimaakgledaaDoor
