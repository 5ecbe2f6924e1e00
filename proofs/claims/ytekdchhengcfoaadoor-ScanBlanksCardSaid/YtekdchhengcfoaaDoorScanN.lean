/- The reference's words: the word that a whole text is. -/
import Derived.Test.YtekdchhengcfoaaDoorRows
import Derived.Test.YtekdchhengcfoaaDoorScanM
namespace Go.Proofs.YtekdchhengcfoaaDoor
open Go.RowKit
set_option linter.unusedVariables false
set_option linter.unusedSimpArgs false
set_option maxRecDepth 100000 in
set_option maxHeartbeats 2000000 in
/-- What does not begin with a digit. -/
theorem of_no (x : ByteArray) (w : World) (hx : x.size ≤ 9223372036854775807) (h0 : 0 < x.size) (hd : isDig (x[0]).toNat = false) : Calls Tryd.prog 23 #[.string x] w fun e w' =>
    e = .returned (.agg #[.int .u8 (if wordB x.toList then 3 else if nameB x then 1 else if signB x.toList then 4 else 0), .string x, .int .i64 0, .int .i64 0, .int .i64 0]) ∧ Below w.heap.size w w' := by
  have k2 := hide ((Blk.new w 31 #[.int .u8 0, .string ⟨#[]⟩, .int .i64 0, .int .i64 0, .int .i64 0]).alloc (.cells #[.int .u8 0, .string x, .int .i64 0, .int .i64 0, .int .i64 0] 31))
  have k3 := hide (show Blk ((w.alloc (.cells #[.int .u8 0, .string ⟨#[]⟩, .int .i64 0, .int .i64 0, .int .i64 0] 31)).alloc (.cells #[.int .u8 0, .string x, .int .i64 0, .int .i64 0, .int .i64 0] 31)) (w.heap.size + 1) 31 #[.int .u8 0, .string x, .int .i64 0, .int .i64 0, .int .i64 0] from (by have := Blk.new (w.alloc (.cells #[.int .u8 0, .string ⟨#[]⟩, .int .i64 0, .int .i64 0, .int .i64 0] 31)) 31 #[.int .u8 0, .string x, .int .i64 0, .int .i64 0, .int .i64 0]; simpa using this))
  have B0 := hide (((Below.refl _ w).alloc (Nat.le_refl _) (.cells #[.int .u8 0, .string ⟨#[]⟩, .int .i64 0, .int .i64 0, .int .i64 0] 31)).alloc (by simp) (.cells #[.int .u8 0, .string x, .int .i64 0, .int .i64 0, .int .i64 0] 31))
  have S2 := hide (show w.heap.size + 1 < ((w.alloc (.cells #[.int .u8 0, .string ⟨#[]⟩, .int .i64 0, .int .i64 0, .int .i64 0] 31)).alloc (.cells #[.int .u8 0, .string x, .int .i64 0, .int .i64 0, .int .i64 0] 31)).heap.size by simp)
  have HD := hide hd
  clear hd
  rcases hw : wordB x.toList with _ | _
  rotate_left
  · go_enter Tryd.func23, Tryd.ntmps23
    go_wp2_with fail
    refine (number_no x _ hx h0 HD.out).mono ?_
    rintro e w' ⟨rfl, rfl⟩
    go_wp2_with fail
    refine (word_b x _).mono ?_
    rw [hw]
    rintro e w1 ⟨rfl, hb1⟩
    have K2 := hide (k2.out.below hb1 (Nat.lt_of_succ_lt S2.out))
    have K3 := hide (k3.out.below hb1 S2.out)
    have B1 := hide (B0.out.trans (hb1.mono (Nat.le_of_lt (Nat.lt_of_succ_lt S2.out))))
    have S3 := hide (Nat.lt_of_lt_of_le S2.out hb1.size)
    clear hb1
    have ac0 := K2.out.cell 0
    have af0 := K2.out.frozen 0
    have ac1 := K2.out.cell 1
    have af1 := K2.out.frozen 1
    have ac2 := K2.out.cell 2
    have af2 := K2.out.frozen 2
    have ac3 := K2.out.cell 3
    have af3 := K2.out.frozen 3
    have ac4 := K2.out.cell 4
    have af4 := K2.out.frozen 4
    have bc0 := K3.out.cell 0
    have bf0 := K3.out.frozen 0
    have bc1 := K3.out.cell 1
    have bf1 := K3.out.frozen 1
    have bc2 := K3.out.cell 2
    have bf2 := K3.out.frozen 2
    have bc3 := K3.out.cell 3
    have bf3 := K3.out.frozen 3
    have bc4 := K3.out.cell 4
    have bf4 := K3.out.frozen 4
    simp only [List.getElem?_toArray, List.getElem?_cons_zero, List.getElem?_cons_succ] at ac0 ac1 ac2 ac3 ac4 bc0 bc1 bc2 bc3 bc4
    go_wp2_with fail
    have KF := ((((((K2.out.far (p := ⟨w.heap.size + 1, 0, none⟩) (by show w.heap.size ≠ w.heap.size + 1; omega) (.int .u8 3)).set_ 0 (.int .u8 3)).set_ 1 (.string x)).set_ 2 (.int .i64 0)).set_ 3 (.int .i64 0)).set_ 4 (.int .i64 0))
    have BF := ((((((B1.out.setCell (p := ⟨w.heap.size + 1, 0, none⟩) (Nat.le_succ _) (.int .u8 3)).setCell (p := ⟨w.heap.size, 0, none⟩) (Nat.le_refl _) (.int .u8 3)).setCell (p := ⟨w.heap.size, 1, none⟩) (Nat.le_refl _) (.string x)).setCell (p := ⟨w.heap.size, 2, none⟩) (Nat.le_refl _) (.int .i64 0)).setCell (p := ⟨w.heap.size, 3, none⟩) (Nat.le_refl _) (.int .i64 0)).setCell (p := ⟨w.heap.size, 4, none⟩) (Nat.le_refl _) (.int .i64 0))
    generalize ((((((w1.setCell ⟨w.heap.size + 1, 0, none⟩ (.int .u8 3)).setCell ⟨w.heap.size, 0, none⟩ (.int .u8 3)).setCell ⟨w.heap.size, 1, none⟩ (.string x)).setCell ⟨w.heap.size, 2, none⟩ (.int .i64 0)).setCell ⟨w.heap.size, 3, none⟩ (.int .i64 0)).setCell ⟨w.heap.size, 4, none⟩ (.int .i64 0)) = W5 at *
    have d0 := KF.cell 0
    have d1 := KF.cell 1
    have d2 := KF.cell 2
    have d3 := KF.cell 3
    have d4 := KF.cell 4
    simp at d0 d1 d2 d3 d4
    exact bodyPost_ret (v := .agg #[.int .u8 3, .string x, .int .i64 0, .int .i64 0, .int .i64 0]) (by simp [results, Tryd.results23, go_sem, d0, d1, d2, d3, d4]) rfl ⟨rfl, BF⟩
  rcases hn : nameB x with _ | _
  rotate_left
  · go_enter Tryd.func23, Tryd.ntmps23
    go_wp2_with fail
    refine (number_no x _ hx h0 HD.out).mono ?_
    rintro e w' ⟨rfl, rfl⟩
    go_wp2_with fail
    refine (word_b x _).mono ?_
    rw [hw]
    rintro e w1 ⟨rfl, hb1⟩
    have K2 := hide (k2.out.below hb1 (Nat.lt_of_succ_lt S2.out))
    have K3 := hide (k3.out.below hb1 S2.out)
    have B1 := hide (B0.out.trans (hb1.mono (Nat.le_of_lt (Nat.lt_of_succ_lt S2.out))))
    have S3 := hide (Nat.lt_of_lt_of_le S2.out hb1.size)
    clear hb1
    go_wp2_with fail
    refine (name_b x _ hx).mono ?_
    rw [hn]
    rintro e w2 ⟨rfl, hb2⟩
    have L2 := hide (K2.out.below hb2 (Nat.lt_of_succ_lt S3.out))
    have L3 := hide (K3.out.below hb2 S3.out)
    have B2 := hide (B1.out.trans (hb2.mono (Nat.le_of_lt (Nat.lt_of_succ_lt S3.out))))
    clear hb2
    have ac0 := L2.out.cell 0
    have af0 := L2.out.frozen 0
    have ac1 := L2.out.cell 1
    have af1 := L2.out.frozen 1
    have ac2 := L2.out.cell 2
    have af2 := L2.out.frozen 2
    have ac3 := L2.out.cell 3
    have af3 := L2.out.frozen 3
    have ac4 := L2.out.cell 4
    have af4 := L2.out.frozen 4
    have bc0 := L3.out.cell 0
    have bf0 := L3.out.frozen 0
    have bc1 := L3.out.cell 1
    have bf1 := L3.out.frozen 1
    have bc2 := L3.out.cell 2
    have bf2 := L3.out.frozen 2
    have bc3 := L3.out.cell 3
    have bf3 := L3.out.frozen 3
    have bc4 := L3.out.cell 4
    have bf4 := L3.out.frozen 4
    simp only [List.getElem?_toArray, List.getElem?_cons_zero, List.getElem?_cons_succ] at ac0 ac1 ac2 ac3 ac4 bc0 bc1 bc2 bc3 bc4
    go_wp2_with fail
    have KF := ((((((L2.out.far (p := ⟨w.heap.size + 1, 0, none⟩) (by show w.heap.size ≠ w.heap.size + 1; omega) (.int .u8 1)).set_ 0 (.int .u8 1)).set_ 1 (.string x)).set_ 2 (.int .i64 0)).set_ 3 (.int .i64 0)).set_ 4 (.int .i64 0))
    have BF := ((((((B2.out.setCell (p := ⟨w.heap.size + 1, 0, none⟩) (Nat.le_succ _) (.int .u8 1)).setCell (p := ⟨w.heap.size, 0, none⟩) (Nat.le_refl _) (.int .u8 1)).setCell (p := ⟨w.heap.size, 1, none⟩) (Nat.le_refl _) (.string x)).setCell (p := ⟨w.heap.size, 2, none⟩) (Nat.le_refl _) (.int .i64 0)).setCell (p := ⟨w.heap.size, 3, none⟩) (Nat.le_refl _) (.int .i64 0)).setCell (p := ⟨w.heap.size, 4, none⟩) (Nat.le_refl _) (.int .i64 0))
    generalize ((((((w2.setCell ⟨w.heap.size + 1, 0, none⟩ (.int .u8 1)).setCell ⟨w.heap.size, 0, none⟩ (.int .u8 1)).setCell ⟨w.heap.size, 1, none⟩ (.string x)).setCell ⟨w.heap.size, 2, none⟩ (.int .i64 0)).setCell ⟨w.heap.size, 3, none⟩ (.int .i64 0)).setCell ⟨w.heap.size, 4, none⟩ (.int .i64 0)) = W5 at *
    have d0 := KF.cell 0
    have d1 := KF.cell 1
    have d2 := KF.cell 2
    have d3 := KF.cell 3
    have d4 := KF.cell 4
    simp at d0 d1 d2 d3 d4
    exact bodyPost_ret (v := .agg #[.int .u8 1, .string x, .int .i64 0, .int .i64 0, .int .i64 0]) (by simp [results, Tryd.results23, go_sem, d0, d1, d2, d3, d4]) rfl ⟨rfl, BF⟩
  rcases hs : signB x.toList with _ | _
  · go_enter Tryd.func23, Tryd.ntmps23
    go_wp2_with fail
    refine (number_no x _ hx h0 HD.out).mono ?_
    rintro e w' ⟨rfl, rfl⟩
    go_wp2_with fail
    refine (word_b x _).mono ?_
    rw [hw]
    rintro e w1 ⟨rfl, hb1⟩
    have K2 := hide (k2.out.below hb1 (Nat.lt_of_succ_lt S2.out))
    have K3 := hide (k3.out.below hb1 S2.out)
    have B1 := hide (B0.out.trans (hb1.mono (Nat.le_of_lt (Nat.lt_of_succ_lt S2.out))))
    have S3 := hide (Nat.lt_of_lt_of_le S2.out hb1.size)
    clear hb1
    go_wp2_with fail
    refine (name_b x _ hx).mono ?_
    rw [hn]
    rintro e w2 ⟨rfl, hb2⟩
    have L2 := hide (K2.out.below hb2 (Nat.lt_of_succ_lt S3.out))
    have L3 := hide (K3.out.below hb2 S3.out)
    have B2 := hide (B1.out.trans (hb2.mono (Nat.le_of_lt (Nat.lt_of_succ_lt S3.out))))
    clear hb2
    go_wp2_with fail
    refine (sign_b x _).mono ?_
    rw [hs]
    rintro e w' ⟨rfl, rfl⟩
    have ac0 := L2.out.cell 0
    have af0 := L2.out.frozen 0
    have ac1 := L2.out.cell 1
    have af1 := L2.out.frozen 1
    have ac2 := L2.out.cell 2
    have af2 := L2.out.frozen 2
    have ac3 := L2.out.cell 3
    have af3 := L2.out.frozen 3
    have ac4 := L2.out.cell 4
    have af4 := L2.out.frozen 4
    have bc0 := L3.out.cell 0
    have bf0 := L3.out.frozen 0
    have bc1 := L3.out.cell 1
    have bf1 := L3.out.frozen 1
    have bc2 := L3.out.cell 2
    have bf2 := L3.out.frozen 2
    have bc3 := L3.out.cell 3
    have bf3 := L3.out.frozen 3
    have bc4 := L3.out.cell 4
    have bf4 := L3.out.frozen 4
    simp only [List.getElem?_toArray, List.getElem?_cons_zero, List.getElem?_cons_succ] at ac0 ac1 ac2 ac3 ac4 bc0 bc1 bc2 bc3 bc4
    go_wp2_with fail
    have KF := (((((L2.out.set_ 0 (.int .u8 0)).set_ 1 (.string x)).set_ 2 (.int .i64 0)).set_ 3 (.int .i64 0)).set_ 4 (.int .i64 0))
    have BF := (((((B2.out.setCell (p := ⟨w.heap.size, 0, none⟩) (Nat.le_refl _) (.int .u8 0)).setCell (p := ⟨w.heap.size, 1, none⟩) (Nat.le_refl _) (.string x)).setCell (p := ⟨w.heap.size, 2, none⟩) (Nat.le_refl _) (.int .i64 0)).setCell (p := ⟨w.heap.size, 3, none⟩) (Nat.le_refl _) (.int .i64 0)).setCell (p := ⟨w.heap.size, 4, none⟩) (Nat.le_refl _) (.int .i64 0))
    generalize (((((w2.setCell ⟨w.heap.size, 0, none⟩ (.int .u8 0)).setCell ⟨w.heap.size, 1, none⟩ (.string x)).setCell ⟨w.heap.size, 2, none⟩ (.int .i64 0)).setCell ⟨w.heap.size, 3, none⟩ (.int .i64 0)).setCell ⟨w.heap.size, 4, none⟩ (.int .i64 0)) = W5 at *
    have d0 := KF.cell 0
    have d1 := KF.cell 1
    have d2 := KF.cell 2
    have d3 := KF.cell 3
    have d4 := KF.cell 4
    simp at d0 d1 d2 d3 d4
    exact bodyPost_ret (v := .agg #[.int .u8 0, .string x, .int .i64 0, .int .i64 0, .int .i64 0]) (by simp [results, Tryd.results23, go_sem, d0, d1, d2, d3, d4]) rfl ⟨rfl, BF⟩
  · go_enter Tryd.func23, Tryd.ntmps23
    go_wp2_with fail
    refine (number_no x _ hx h0 HD.out).mono ?_
    rintro e w' ⟨rfl, rfl⟩
    go_wp2_with fail
    refine (word_b x _).mono ?_
    rw [hw]
    rintro e w1 ⟨rfl, hb1⟩
    have K2 := hide (k2.out.below hb1 (Nat.lt_of_succ_lt S2.out))
    have K3 := hide (k3.out.below hb1 S2.out)
    have B1 := hide (B0.out.trans (hb1.mono (Nat.le_of_lt (Nat.lt_of_succ_lt S2.out))))
    have S3 := hide (Nat.lt_of_lt_of_le S2.out hb1.size)
    clear hb1
    go_wp2_with fail
    refine (name_b x _ hx).mono ?_
    rw [hn]
    rintro e w2 ⟨rfl, hb2⟩
    have L2 := hide (K2.out.below hb2 (Nat.lt_of_succ_lt S3.out))
    have L3 := hide (K3.out.below hb2 S3.out)
    have B2 := hide (B1.out.trans (hb2.mono (Nat.le_of_lt (Nat.lt_of_succ_lt S3.out))))
    clear hb2
    go_wp2_with fail
    refine (sign_b x _).mono ?_
    rw [hs]
    rintro e w' ⟨rfl, rfl⟩
    have ac0 := L2.out.cell 0
    have af0 := L2.out.frozen 0
    have ac1 := L2.out.cell 1
    have af1 := L2.out.frozen 1
    have ac2 := L2.out.cell 2
    have af2 := L2.out.frozen 2
    have ac3 := L2.out.cell 3
    have af3 := L2.out.frozen 3
    have ac4 := L2.out.cell 4
    have af4 := L2.out.frozen 4
    have bc0 := L3.out.cell 0
    have bf0 := L3.out.frozen 0
    have bc1 := L3.out.cell 1
    have bf1 := L3.out.frozen 1
    have bc2 := L3.out.cell 2
    have bf2 := L3.out.frozen 2
    have bc3 := L3.out.cell 3
    have bf3 := L3.out.frozen 3
    have bc4 := L3.out.cell 4
    have bf4 := L3.out.frozen 4
    simp only [List.getElem?_toArray, List.getElem?_cons_zero, List.getElem?_cons_succ] at ac0 ac1 ac2 ac3 ac4 bc0 bc1 bc2 bc3 bc4
    go_wp2_with fail
    have KF := ((((((L2.out.far (p := ⟨w.heap.size + 1, 0, none⟩) (by show w.heap.size ≠ w.heap.size + 1; omega) (.int .u8 4)).set_ 0 (.int .u8 4)).set_ 1 (.string x)).set_ 2 (.int .i64 0)).set_ 3 (.int .i64 0)).set_ 4 (.int .i64 0))
    have BF := ((((((B2.out.setCell (p := ⟨w.heap.size + 1, 0, none⟩) (Nat.le_succ _) (.int .u8 4)).setCell (p := ⟨w.heap.size, 0, none⟩) (Nat.le_refl _) (.int .u8 4)).setCell (p := ⟨w.heap.size, 1, none⟩) (Nat.le_refl _) (.string x)).setCell (p := ⟨w.heap.size, 2, none⟩) (Nat.le_refl _) (.int .i64 0)).setCell (p := ⟨w.heap.size, 3, none⟩) (Nat.le_refl _) (.int .i64 0)).setCell (p := ⟨w.heap.size, 4, none⟩) (Nat.le_refl _) (.int .i64 0))
    generalize ((((((w2.setCell ⟨w.heap.size + 1, 0, none⟩ (.int .u8 4)).setCell ⟨w.heap.size, 0, none⟩ (.int .u8 4)).setCell ⟨w.heap.size, 1, none⟩ (.string x)).setCell ⟨w.heap.size, 2, none⟩ (.int .i64 0)).setCell ⟨w.heap.size, 3, none⟩ (.int .i64 0)).setCell ⟨w.heap.size, 4, none⟩ (.int .i64 0)) = W5 at *
    have d0 := KF.cell 0
    have d1 := KF.cell 1
    have d2 := KF.cell 2
    have d3 := KF.cell 3
    have d4 := KF.cell 4
    simp at d0 d1 d2 d3 d4
    exact bodyPost_ret (v := .agg #[.int .u8 4, .string x, .int .i64 0, .int .i64 0, .int .i64 0]) (by simp [results, Tryd.results23, go_sem, d0, d1, d2, d3, d4]) rfl ⟨rfl, BF⟩
set_option maxRecDepth 100000 in
set_option maxHeartbeats 2000000 in
/-- A row of digits. -/
theorem of_yes (x : ByteArray) (w : World) (hx : x.size ≤ 9223372036854775807) (h0 : 0 < x.size) (hd : ∀ j (h : j < x.size), isDig (x[j]).toNat = true) (hw : wordB x.toList = false) (hn : nameB x = false) (hs : signB x.toList = false) : Calls Tryd.prog 23 #[.string x] w fun e w' =>
    (if 18 < x.size ∨ ((x[0]).toNat = 48 ∧ 1 < x.size) then e = .returned (.agg #[.int .u8 0, .string x, .int .i64 0, .int .i64 0, .int .i64 0]) else e = .returned (.agg #[.int .u8 2, .string x, .int .i64 (numOf x.data.toList), .int .i64 0, .int .i64 0])) ∧ Below w.heap.size w w' := by
  have k2 := hide ((Blk.new w 31 #[.int .u8 0, .string ⟨#[]⟩, .int .i64 0, .int .i64 0, .int .i64 0]).alloc (.cells #[.int .u8 0, .string x, .int .i64 0, .int .i64 0, .int .i64 0] 31))
  have k3 := hide (show Blk ((w.alloc (.cells #[.int .u8 0, .string ⟨#[]⟩, .int .i64 0, .int .i64 0, .int .i64 0] 31)).alloc (.cells #[.int .u8 0, .string x, .int .i64 0, .int .i64 0, .int .i64 0] 31)) (w.heap.size + 1) 31 #[.int .u8 0, .string x, .int .i64 0, .int .i64 0, .int .i64 0] from (by have := Blk.new (w.alloc (.cells #[.int .u8 0, .string ⟨#[]⟩, .int .i64 0, .int .i64 0, .int .i64 0] 31)) 31 #[.int .u8 0, .string x, .int .i64 0, .int .i64 0, .int .i64 0]; simpa using this))
  have B0 := hide (((Below.refl _ w).alloc (Nat.le_refl _) (.cells #[.int .u8 0, .string ⟨#[]⟩, .int .i64 0, .int .i64 0, .int .i64 0] 31)).alloc (by simp) (.cells #[.int .u8 0, .string x, .int .i64 0, .int .i64 0, .int .i64 0] 31))
  have S2 := hide (show w.heap.size + 1 < ((w.alloc (.cells #[.int .u8 0, .string ⟨#[]⟩, .int .i64 0, .int .i64 0, .int .i64 0] 31)).alloc (.cells #[.int .u8 0, .string x, .int .i64 0, .int .i64 0, .int .i64 0] 31)).heap.size by simp)
  have HD := hide hd
  clear hd
  by_cases hc : 18 < x.size ∨ ((x[0]).toNat = 48 ∧ 1 < x.size)
  · have E : ∀ a b : Prop, (if 18 < x.size ∨ ((x[0]).toNat = 48 ∧ 1 < x.size) then a else b) = a := fun a b => if_pos hc
    simp only [E]
    have HC := hide E
    clear hc E
    go_enter Tryd.func23, Tryd.ntmps23
    go_wp2_with fail
    refine (number_yes x _ hx h0 HD.out).mono ?_
    simp only [HC.out]
    rintro e w' ⟨rfl, rfl⟩
    go_wp2_with fail
    refine (word_b x _).mono ?_
    rw [hw]
    rintro e w1 ⟨rfl, hb1⟩
    have K2 := hide (k2.out.below hb1 (Nat.lt_of_succ_lt S2.out))
    have K3 := hide (k3.out.below hb1 S2.out)
    have B1 := hide (B0.out.trans (hb1.mono (Nat.le_of_lt (Nat.lt_of_succ_lt S2.out))))
    have S3 := hide (Nat.lt_of_lt_of_le S2.out hb1.size)
    clear hb1
    go_wp2_with fail
    refine (name_b x _ hx).mono ?_
    rw [hn]
    rintro e w2 ⟨rfl, hb2⟩
    have L2 := hide (K2.out.below hb2 (Nat.lt_of_succ_lt S3.out))
    have L3 := hide (K3.out.below hb2 S3.out)
    have B2 := hide (B1.out.trans (hb2.mono (Nat.le_of_lt (Nat.lt_of_succ_lt S3.out))))
    clear hb2
    go_wp2_with fail
    refine (sign_b x _).mono ?_
    rw [hs]
    rintro e w' ⟨rfl, rfl⟩
    have ac0 := L2.out.cell 0
    have af0 := L2.out.frozen 0
    have ac1 := L2.out.cell 1
    have af1 := L2.out.frozen 1
    have ac2 := L2.out.cell 2
    have af2 := L2.out.frozen 2
    have ac3 := L2.out.cell 3
    have af3 := L2.out.frozen 3
    have ac4 := L2.out.cell 4
    have af4 := L2.out.frozen 4
    have bc0 := L3.out.cell 0
    have bf0 := L3.out.frozen 0
    have bc1 := L3.out.cell 1
    have bf1 := L3.out.frozen 1
    have bc2 := L3.out.cell 2
    have bf2 := L3.out.frozen 2
    have bc3 := L3.out.cell 3
    have bf3 := L3.out.frozen 3
    have bc4 := L3.out.cell 4
    have bf4 := L3.out.frozen 4
    simp only [List.getElem?_toArray, List.getElem?_cons_zero, List.getElem?_cons_succ] at ac0 ac1 ac2 ac3 ac4 bc0 bc1 bc2 bc3 bc4
    go_wp2_with fail
    have KF := (((((L2.out.set_ 0 (.int .u8 0)).set_ 1 (.string x)).set_ 2 (.int .i64 0)).set_ 3 (.int .i64 0)).set_ 4 (.int .i64 0))
    have BF := (((((B2.out.setCell (p := ⟨w.heap.size, 0, none⟩) (Nat.le_refl _) (.int .u8 0)).setCell (p := ⟨w.heap.size, 1, none⟩) (Nat.le_refl _) (.string x)).setCell (p := ⟨w.heap.size, 2, none⟩) (Nat.le_refl _) (.int .i64 0)).setCell (p := ⟨w.heap.size, 3, none⟩) (Nat.le_refl _) (.int .i64 0)).setCell (p := ⟨w.heap.size, 4, none⟩) (Nat.le_refl _) (.int .i64 0))
    generalize (((((w2.setCell ⟨w.heap.size, 0, none⟩ (.int .u8 0)).setCell ⟨w.heap.size, 1, none⟩ (.string x)).setCell ⟨w.heap.size, 2, none⟩ (.int .i64 0)).setCell ⟨w.heap.size, 3, none⟩ (.int .i64 0)).setCell ⟨w.heap.size, 4, none⟩ (.int .i64 0)) = W5 at *
    have d0 := KF.cell 0
    have d1 := KF.cell 1
    have d2 := KF.cell 2
    have d3 := KF.cell 3
    have d4 := KF.cell 4
    simp at d0 d1 d2 d3 d4
    exact bodyPost_ret (v := .agg #[.int .u8 0, .string x, .int .i64 0, .int .i64 0, .int .i64 0]) (by simp [results, Tryd.results23, go_sem, d0, d1, d2, d3, d4]) rfl ⟨rfl, BF⟩
  · have E : ∀ a b : Prop, (if 18 < x.size ∨ ((x[0]).toNat = 48 ∧ 1 < x.size) then a else b) = b := fun a b => if_neg hc
    simp only [E]
    have HC := hide E
    clear hc E
    go_enter Tryd.func23, Tryd.ntmps23
    go_wp2_with fail
    refine (number_yes x _ hx h0 HD.out).mono ?_
    simp only [HC.out]
    rintro e w' ⟨rfl, rfl⟩
    go_wp2_with fail
    refine (word_b x _).mono ?_
    rw [hw]
    rintro e w1 ⟨rfl, hb1⟩
    have K2 := hide (k2.out.below hb1 (Nat.lt_of_succ_lt S2.out))
    have K3 := hide (k3.out.below hb1 S2.out)
    have B1 := hide (B0.out.trans (hb1.mono (Nat.le_of_lt (Nat.lt_of_succ_lt S2.out))))
    have S3 := hide (Nat.lt_of_lt_of_le S2.out hb1.size)
    clear hb1
    go_wp2_with fail
    refine (name_b x _ hx).mono ?_
    rw [hn]
    rintro e w2 ⟨rfl, hb2⟩
    have L2 := hide (K2.out.below hb2 (Nat.lt_of_succ_lt S3.out))
    have L3 := hide (K3.out.below hb2 S3.out)
    have B2 := hide (B1.out.trans (hb2.mono (Nat.le_of_lt (Nat.lt_of_succ_lt S3.out))))
    clear hb2
    have ac0 := L2.out.cell 0
    have af0 := L2.out.frozen 0
    have ac1 := L2.out.cell 1
    have af1 := L2.out.frozen 1
    have ac2 := L2.out.cell 2
    have af2 := L2.out.frozen 2
    have ac3 := L2.out.cell 3
    have af3 := L2.out.frozen 3
    have ac4 := L2.out.cell 4
    have af4 := L2.out.frozen 4
    have bc0 := L3.out.cell 0
    have bf0 := L3.out.frozen 0
    have bc1 := L3.out.cell 1
    have bf1 := L3.out.frozen 1
    have bc2 := L3.out.cell 2
    have bf2 := L3.out.frozen 2
    have bc3 := L3.out.cell 3
    have bf3 := L3.out.frozen 3
    have bc4 := L3.out.cell 4
    have bf4 := L3.out.frozen 4
    simp only [List.getElem?_toArray, List.getElem?_cons_zero, List.getElem?_cons_succ] at ac0 ac1 ac2 ac3 ac4 bc0 bc1 bc2 bc3 bc4
    go_wp2_with fail
    have KF := (((((((L2.out.far (p := ⟨w.heap.size + 1, 0, none⟩) (by show w.heap.size ≠ w.heap.size + 1; omega) (.int .u8 2)).far (p := ⟨w.heap.size + 1, 2, none⟩) (by show w.heap.size ≠ w.heap.size + 1; omega) (.int .i64 (numOf x.data.toList))).set_ 0 (.int .u8 2)).set_ 1 (.string x)).set_ 2 (.int .i64 (numOf x.data.toList))).set_ 3 (.int .i64 0)).set_ 4 (.int .i64 0))
    have BF := (((((((B2.out.setCell (p := ⟨w.heap.size + 1, 0, none⟩) (Nat.le_succ _) (.int .u8 2)).setCell (p := ⟨w.heap.size + 1, 2, none⟩) (Nat.le_succ _) (.int .i64 (numOf x.data.toList))).setCell (p := ⟨w.heap.size, 0, none⟩) (Nat.le_refl _) (.int .u8 2)).setCell (p := ⟨w.heap.size, 1, none⟩) (Nat.le_refl _) (.string x)).setCell (p := ⟨w.heap.size, 2, none⟩) (Nat.le_refl _) (.int .i64 (numOf x.data.toList))).setCell (p := ⟨w.heap.size, 3, none⟩) (Nat.le_refl _) (.int .i64 0)).setCell (p := ⟨w.heap.size, 4, none⟩) (Nat.le_refl _) (.int .i64 0))
    generalize (((((((w2.setCell ⟨w.heap.size + 1, 0, none⟩ (.int .u8 2)).setCell ⟨w.heap.size + 1, 2, none⟩ (.int .i64 (numOf x.data.toList))).setCell ⟨w.heap.size, 0, none⟩ (.int .u8 2)).setCell ⟨w.heap.size, 1, none⟩ (.string x)).setCell ⟨w.heap.size, 2, none⟩ (.int .i64 (numOf x.data.toList))).setCell ⟨w.heap.size, 3, none⟩ (.int .i64 0)).setCell ⟨w.heap.size, 4, none⟩ (.int .i64 0)) = W5 at *
    have d0 := KF.cell 0
    have d1 := KF.cell 1
    have d2 := KF.cell 2
    have d3 := KF.cell 3
    have d4 := KF.cell 4
    simp at d0 d1 d2 d3 d4
    exact bodyPost_ret (v := .agg #[.int .u8 2, .string x, .int .i64 (numOf x.data.toList), .int .i64 0, .int .i64 0]) (by simp [results, Tryd.results23, go_sem, d0, d1, d2, d3, d4]) rfl ⟨rfl, BF⟩
end Go.Proofs.YtekdchhengcfoaaDoor
