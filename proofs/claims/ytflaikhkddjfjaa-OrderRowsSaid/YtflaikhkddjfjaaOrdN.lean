/- The program's Is. -/
import Derived.Test.YtflaikhkddjfjaaRows
import Derived.Test.YtflaikhkddjfjaaOrdM
import Derived.LoopN
namespace Go.Proofs.Ytflaikhkddjfjaa
open Go Go.RowKit
set_option linter.unusedVariables false
set_option linter.unusedSimpArgs false
namespace Ord
/-- A row of yes and no in a box. -/
def Boxd (w : World) (g gr len : Nat) (f : Nat → Bool) : Prop := Blk w g 41 #[.slice (some ⟨gr, 0, none⟩) len len] ∧ BRow w gr gr len f
def outB (f : Nat → Bool) (k : Int) : Bool := !f k.toNat
set_option maxRecDepth 100000 in
set_option maxHeartbeats 4000000 in
theorem is1_c (k : Int) (g gr len : Nat) (f : Nat → Bool) (w : World) (h : Boxd w g gr len f) (hk : 0 ≤ k ∧ k < (len : Int)) :
    Calls Try.prog 30 #[.int .i64 k, .pointer (some ⟨g, 0, none⟩)] w fun e w' => e = .returned (.bool (outB f k)) ∧ w = w' := by
  obtain ⟨n, rfl⟩ : ∃ n : Nat, k = n := ⟨k.toNat, by omega⟩
  have c0 : w.cell? ⟨g, 0, none⟩ = some (.slice (some ⟨gr, 0, none⟩) len len) := h.1.cell 0
  have c1 := h.2.cell (m := n) (by omega)
  have hkI : (n : Int) < (len : Int) := hk.2
  have e : outB f (n : Int) = !f n := by unfold outB; rw [Int.toNat_natCast]
  rw [e]
  clear h hk e
  generalize f n = x at *
  go_enter Try.func30, Try.ntmps30
  go_wp2_with fail
  go_ret
  exact ⟨rfl, rfl⟩
set_option maxRecDepth 100000 in
set_option maxHeartbeats 4000000 in
theorem idxI_c (A : Option Addr) (l : List Int) (cap B : Nat) (len g gr : Nat) (f : Nat → Bool) (w : World) (hr : Rd w B A l) (hm : l.length ≤ maxLen) (hl : ∀ k ∈ l, 0 ≤ k ∧ k < (len : Int)) (h : Boxd w g gr len f) :
    Calls Try.prog 42 #[.slice A l.length cap, .func (.func 30) #[] #[.pointer (some ⟨g, 0, none⟩)]] w fun e w' => (∃ z : Int, e = .returned (.int .i64 z) ∧ (0 ≤ z ↔ ∃ k ∈ l, outB f k = true)) ∧ w = w' := by
  have HR := hide hr
  have HBX := hide h
  have HLL := hide hl
  unfold maxLen at hm
  clear hr h hl
  go_enter Try.func42, Try.ntmps42
  go_wp2_with fail
  go_loopw [8] (fun vi wr => ∃ (k : Nat), k ≤ l.length ∧ vi = .int .i64 k ∧ Hid (∀ x ∈ l.take k, outB f x = false) ∧ wr = w) (fun vi _ => l.length - (intOf vi).toNat)
  case atStart => exact ⟨0, by omega, rfl, hide (fun x hx => by simp at hx), rfl⟩
  case round =>
    obtain ⟨k, hk, rfl, HS, rfl⟩ := hrel
    by_cases hlt : k < l.length
    · have hltI : (k : Int) < (l.length : Int) := by omega
      obtain ⟨ad, rfl, _, c⟩ := rd_at HR.out hlt
      have hmem : l.getD k 0 ∈ l := by
        rw [List.getD_eq_getElem?_getD, List.getElem?_eq_getElem hlt]
        exact List.getElem_mem hlt
      have MC := hide (is1_c (l.getD k 0) g gr len f wr HBX.out (HLL.out _ hmem))
      have HT := hide (show l.take (k + 1) = l.take k ++ [l.getD k 0] by rw [List.take_succ_eq_append_getElem hlt, List.getD_eq_getElem?_getD, List.getElem?_eq_getElem hlt]; rfl)
      have HM := hide hmem
      clear hmem
      generalize l.getD k 0 = x at *
      cases hb : outB f x with
      | true =>
        rw [hb] at MC
        have HB := hide hb
        clear hb
        go_wp2_with fail
        refine MC.out.mono ?_
        rintro e w' ⟨rfl, rfl⟩
        go_wp2_with fail
        go_ret
        exact ⟨⟨_, rfl, ⟨fun _ => ⟨x, HM.out, HB.out⟩, fun _ => by omega⟩⟩, rfl⟩
      | false =>
        rw [hb] at MC
        have HS2 : Hid (∀ y ∈ l.take (k + 1), outB f y = false) := hide (fun y hy => by
          rw [HT.out] at hy
          rcases List.mem_append.1 hy with hy | hy
          · exact HS.out y hy
          · rw [List.mem_singleton.1 hy]; exact hb)
        clear hb
        go_wp2_with fail
        refine MC.out.mono ?_
        rintro e w' ⟨rfl, rfl⟩
        go_wp2_with fail
        go_roundw
        case rel => exact ⟨k + 1, by omega, by go_num, HS2, by first | trivial | rfl⟩
        case measure => simp [intOf]; omega
    · have hltI : ¬ (k : Int) < (l.length : Int) := by omega
      have HS2 : Hid (∀ y ∈ l, outB f y = false) := hide (fun y hy => by
        have := HS.out
        rw [List.take_of_length_le (by omega)] at this
        exact this y hy)
      go_wp2_with fail
      go_ret
      exact ⟨⟨_, rfl, ⟨fun h => absurd h (by decide), fun ⟨x, hx, hb⟩ => by rw [HS2.out x hx] at hb; cases hb⟩⟩, rfl⟩
set_option maxRecDepth 100000 in
set_option maxHeartbeats 4000000 in
theorem hasI_c (A : Option Addr) (l : List Int) (cap B : Nat) (len g gr : Nat) (f : Nat → Bool) (w : World) (hr : Rd w B A l) (hm : l.length ≤ maxLen) (hl : ∀ k ∈ l, 0 ≤ k ∧ k < (len : Int)) (h : Boxd w g gr len f) :
    Calls Try.prog 29 #[.slice A l.length cap, .func (.func 30) #[] #[.pointer (some ⟨g, 0, none⟩)]] w fun e w' => e = .returned (.bool (decide (∃ k ∈ l, outB f k = true))) ∧ w = w' := by
  have IC := hide (idxI_c A l cap B len g gr f w hr hm hl h)
  clear hr hm h hl
  go_enter Try.func29, Try.ntmps29
  go_wp2_with fail
  refine IC.out.mono ?_
  rintro e w' ⟨⟨z, rfl, hz⟩, rfl⟩
  have HZ := hide hz
  clear hz
  by_cases h0 : 0 ≤ z
  · go_wp2_with fail
    go_ret
    exact ⟨by rw [decide_eq_true (HZ.out.1 h0)]; rfl, rfl⟩
  · go_wp2_with fail
    go_ret
    exact ⟨by rw [decide_eq_false (fun h => absurd (HZ.out.2 h) (by omega))]; show Ending.returned (.bool (decide (0 ≤ z))) = _; rw [decide_eq_false (by omega)], rfl⟩
/-- The rest of a row, when those of f are in already. -/
def isF (es : List Eo) : List Int → (Nat → Bool) → Bool
  | [], _ => true
  | x :: xs, f => inB es x && !f x.toNat && decide (¬ ∃ k ∈ natI (es.getD x.toNat default).ah, outB f k = true) && isF es xs (fun m => if m = x.toNat then true else f m)
set_option maxRecDepth 100000 in
set_option maxHeartbeats 4000000 in
theorem Is_c (o D n len B cap : Nat) (E : Nat → Ev) (es : List Eo) (A : Option Addr) (l : List Int) (w : World) (ho : OrA w o D D es) (hel : es.length = len) (hle : len ≤ 120) (hal : ∀ i, i < len → ∀ k ∈ (es.getD i default).ah, k < i) (hah : ∀ i, i < len → (es.getD i default).ah.length ≤ 1000) (hr : Rd w w.heap.size A l) (hm : l.length ≤ maxLen) :
    Calls Try.prog 19 #[.pointer (some ⟨o, 0, none⟩), .slice A l.length cap] w fun e w' => e = .returned (.bool (decide (l.length = len) && isF es l (fun _ => false))) ∧ Below w.heap.size w w' := by
  have MC := hide (Many_c o D D es w ho)
  rw [hel] at MC
  by_cases hne : l.length = len
  rotate_left
  · have e1 : decide (l.length = len) = false := decide_eq_false hne
    rw [e1, Bool.false_and]
    have hneI : ((l.length : Int) != (len : Int)) = true := by rw [bne_iff_ne]; omega
    clear ho hr hal hah hne e1
    go_enter Try.func19, Try.ntmps19
    go_wp2_with fail
    refine MC.out.mono ?_
    rintro e w' ⟨rfl, rfl⟩
    go_wp2_with fail
    go_ret
    exact ⟨rfl, Below.refl _ _⟩
  have e1 : decide (l.length = len) = true := decide_eq_true hne
  rw [e1, Bool.true_and]
  have HNE := hide hne
  have hneI : ((len : Int) != (len : Int)) = false := by simp
  rw [hne]
  have HO := hide ho
  have HR := hide hr
  have HAL := hide hal
  have HAH := hide hah
  have HEL := hide hel
  have hmk := run_make_row' (P := Try.prog) 41 4 (.bool false) 1 Try.underlying41 bool_info rfl .i64 .i64 len (by omega) (by omega) w
  have b0 := BRow.made w len
  have hb0 := (Below.refl w.heap.size w).alloc (Nat.le_refl _) (.cells (madeCells #[Value.bool false] len) 4)
  have hs1 : (w.alloc (.cells (madeCells #[Value.bool false] len) 4)).heap.size = w.heap.size + 1 := by simp
  obtain ⟨w1, hw1⟩ : ∃ x, w.alloc (.cells (madeCells #[Value.bool false] len) 4) = x := ⟨_, rfl⟩
  rw [hw1] at b0 hb0 hs1 hmk
  have bx := Blk.new w1 41 #[.slice none 0 0]
  have hb1 := hb0.alloc hb0.size (.cells #[.slice none 0 0] 41)
  have b1 := b0.below ((Below.refl w1.heap.size w1).alloc (Nat.le_refl _) (.cells #[.slice none 0 0] 41)) (by omega)
  rw [hs1] at bx
  obtain ⟨w2, hw2⟩ : ∃ x, w1.alloc (.cells #[.slice none 0 0] 41) = x := ⟨_, rfl⟩
  rw [hw2] at bx hb1 b1
  have p0 : w2.cell? ⟨w.heap.size + 1, 0, none⟩ = some (.slice none 0 0) := bx.cell 0
  have pf := bx.frozen 0
  have bx3 := bx.set_ 0 (.slice (some ⟨w.heap.size, 0, none⟩) len len)
  have hb3 := hb1.setCell (p := ⟨w.heap.size + 1, 0, none⟩) (by show w.heap.size ≤ w.heap.size + 1; omega) (.slice (some ⟨w.heap.size, 0, none⟩) len len)
  have b3 := b1.of_block (Below.heap_setCell w2 ⟨w.heap.size + 1, 0, none⟩ (.slice (some ⟨w.heap.size, 0, none⟩) len len) w.heap.size (by show w.heap.size ≠ w.heap.size + 1; omega))
  obtain ⟨w3, hw3⟩ : ∃ x, w2.setCell ⟨w.heap.size + 1, 0, none⟩ (.slice (some ⟨w.heap.size, 0, none⟩) len len) = x := ⟨_, rfl⟩
  rw [hw3] at bx3 hb3 b3
  have BX : Hid (Boxd w3 (w.heap.size + 1) w.heap.size len (fun _ => false)) := hide ⟨by simpa using bx3, b3⟩
  have HB := hide hb3
  clear ho hr hal hah hel b0 hb0 bx hb1 b1 bx3 hb3 b3 hne e1
  go_enter Try.func19, Try.ntmps19
  go_wp2_with fail
  refine MC.out.mono ?_
  rintro e w' ⟨rfl, rfl⟩
  go_wp2_with fail
  clear hw1 hw2 hw3 p0 pf hmk
  go_loopw [18] (fun vi wr => ∃ (k : Nat) (f : Nat → Bool), k ≤ len ∧ vi = .int .i64 k ∧ Hid (isF es (l.drop k) f = isF es l (fun _ => false)) ∧ Hid (Boxd wr (w.heap.size + 1) w.heap.size len f) ∧ Hid (Below w.heap.size w wr)) (fun vi _ => len - (intOf vi).toNat)
  case atStart => exact ⟨0, _, by omega, rfl, hide (by rw [List.drop_zero]), BX, HB⟩
  case round =>
    clear BX HB
    obtain ⟨k, f, hk, rfl, HI, BX, HB⟩ := hrel
    rename World => wr
    by_cases hlt : k < len
    rotate_left
    · have hltI : ¬ (k : Int) < (len : Int) := by omega
      have FIN := hide (show isF es l (fun _ => false) = true by
        rw [← HI.out, List.drop_of_length_le (by rw [HNE.out]; omega)]
        rfl)
      go_wp2_with fail
      go_ret
      exact ⟨by rw [FIN.out]; rfl, HB.out⟩
    have hltI : (k : Int) < (len : Int) := by omega
    have hltl : k < l.length := by rw [HNE.out]; exact hlt
    obtain ⟨ad, rfl, hbl, cx⟩ := rd_at HR.out hltl
    have cx := (HB.out.cell (p := ad.add k) (by simpa [block_of_add] using hbl)).trans cx
    have HD : isF es (l.drop k) f = (inB es (l.getD k 0) && !f (l.getD k 0).toNat && decide (¬ ∃ j ∈ natI (es.getD (l.getD k 0).toNat default).ah, outB f j = true) && isF es (l.drop (k + 1)) (fun m => if m = (l.getD k 0).toNat then true else f m)) := by
      rw [List.drop_eq_getElem_cons hltl]
      have : l[k] = l.getD k 0 := by rw [List.getD_eq_getElem?_getD, List.getElem?_eq_getElem hltl]; rfl
      rw [this]
      rfl
    rw [HI.out] at HD
    have TC := hide (there_c o D D es (l.getD k 0) wr (HO.out.below HB.out))
    clear hbl hltl
    generalize l.getD k 0 = x at *
    cases hin : inB es x with
    | false =>
      rw [hin] at TC HD
      have FIN := hide (show isF es l (fun _ => false) = false by rw [HD]; simp)
      clear HD hin
      go_wp2_with fail
      refine TC.out.mono ?_
      rintro e w' ⟨rfl, rfl⟩
      go_wp2_with fail
      go_ret
      exact ⟨by rw [FIN.out]; rfl, HB.out⟩
    | true =>
      have hin' := of_decide_eq_true hin
      rw [HEL.out] at hin'
      obtain ⟨xn, rfl⟩ : ∃ xn : Nat, x = xn := ⟨x.toNat, by omega⟩
      have hxl : xn < len := by omega
      have hxI : (xn : Int) < (len : Int) := by omega
      rw [hin] at TC HD
      rw [Int.toNat_natCast] at HD
      have q0 : wr.cell? ⟨w.heap.size + 1, 0, none⟩ = some (.slice (some ⟨w.heap.size, 0, none⟩) len len) := BX.out.1.cell 0
      have q1 := BX.out.2.cell hxl
      have q2 := BX.out.2.frozen xn
      cases hfx : f xn with
      | true =>
        rw [hfx] at HD q1
        have FIN := hide (show isF es l (fun _ => false) = false by rw [HD]; simp)
        clear HD hin hin' hfx
        go_wp2_with fail
        refine TC.out.mono ?_
        rintro e w' ⟨rfl, rfl⟩
        go_wp2_with fail
        go_ret
        exact ⟨by rw [FIN.out]; rfl, HB.out⟩
      | false =>
        rw [hfx] at HD q1
        obtain ⟨V, vc, bo, _, hc⟩ := (HO.out.below HB.out).open_
        have hxe : xn < es.length := by rw [HEL.out]; exact hxl
        obtain ⟨g, rfl, c0, c1, c2, c3⟩ := hc xn hxe
        have o0 : wr.cell? ⟨o, 0, none⟩ = some (.slice (some ⟨g, 0, none⟩) es.length vc) := bo.cell 0
        rw [HEL.out] at o0
        have ra := ((HO.out.below HB.out).rows xn hxe).1
        have hal := HAL.out xn hxl
        have hah := HAH.out xn hxl
        rw [getD_getE hxe] at hal hah HD
        generalize es[xn] = ev at *
        obtain ⟨r, A1, ac, ah, C1, cc1, ck, dd⟩ := ev
        simp only at c1 ra hal hah HD
        have CF := hide (hasI_c A1 (natI ah) ac wr.heap.size len (w.heap.size + 1) w.heap.size f wr (own_rd ra (natI_len ah)) (by rw [natI_len]; unfold maxLen; omega) (fun j hj => by
          unfold natI at hj
          obtain ⟨y, hy, rfl⟩ := List.mem_map.1 hj
          have := hal y hy
          omega) BX.out)
        rw [natI_len] at CF
        clear c0 c2 c3 bo hc ra hal hah hin hin' hfx hxe
        by_cases hex : ∃ j ∈ natI ah, outB f j = true
        · rw [decide_eq_true hex] at CF
          have FIN := hide (show isF es l (fun _ => false) = false by rw [HD, decide_eq_false (fun h => h hex)]; simp)
          clear HD hex
          go_wp2_with fail
          refine TC.out.mono ?_
          rintro e w' ⟨rfl, rfl⟩
          go_wp2_with fail
          refine CF.out.mono ?_
          rintro e w' ⟨rfl, rfl⟩
          go_wp2_with fail
          go_ret
          exact ⟨by rw [FIN.out]; rfl, HB.out⟩
        · rw [decide_eq_false hex] at CF
          have HI2 := hide (show isF es (l.drop (k + 1)) (fun m => if m = xn then true else f m) = isF es l (fun _ => false) by rw [HD, decide_eq_true hex]; simp)
          have hgne : w.heap.size + 1 ≠ w.heap.size := by omega
          have BX2 : Hid (Boxd (wr.setCell ⟨w.heap.size, xn, none⟩ (.bool true)) (w.heap.size + 1) w.heap.size len (fun m => if m = xn then true else f m)) := hide ⟨BX.out.1.far (p := ⟨w.heap.size, xn, none⟩) hgne _, BX.out.2.set_ xn true⟩
          have HB2 := hide (HB.out.setCell (p := ⟨w.heap.size, xn, none⟩) (Nat.le_refl _) (.bool true))
          clear HD hex hgne
          go_wp2_with fail
          refine TC.out.mono ?_
          rintro e w' ⟨rfl, rfl⟩
          go_wp2_with fail
          refine CF.out.mono ?_
          rintro e w' ⟨rfl, rfl⟩
          go_wp2_with fail
          go_roundw
          case rel => exact ⟨k + 1, _, by omega, by go_num, HI2, BX2, HB2⟩
          case measure => simp [intOf] <;> omega
end Ord
end Go.Proofs.Ytflaikhkddjfjaa
