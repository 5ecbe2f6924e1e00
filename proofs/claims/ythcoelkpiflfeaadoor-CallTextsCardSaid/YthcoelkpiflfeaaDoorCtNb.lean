/- What digits tell: the reference's number (layer 16). -/
import Derived.Test.YthcoelkpiflfeaaDoorRows
import Derived.Test.YthcoelkpiflfeaaDoorNum05
import Derived.Test.YthcoelkpiflfeaaDoorCtQ
import Derived.Test.YthcoelkpiflfeaaDoorWitP
import Derived.Test.YthcoelkpiflfeaaDoorGround
import Derived.Deep.CutRange
namespace Go.Proofs.YthcoelkpiflfeaaDoor
open Go.RowKit
open Go.Lib (itoa itoa_length_le)
set_option linter.unusedVariables false
set_option linter.unusedSimpArgs false
namespace Cal
open Wit (digM digM_app digM_fit fit0 digs isNeg rdB wrap_fit Fit)
theorem dig_take (l : List UInt8) (i : Nat) (hi : i < l.length) : digM (l.take (i + 1)) 0 = match digM (l.take i) 0 with | some m => (if 48 ≤ l[i].toNat ∧ l[i].toNat ≤ 57 then some (wrap64 (wrap64 (10 * m) - ((l[i].toNat - 48 : Nat) : Int))) else none) | none => none := by
  rw [List.take_succ_eq_append_getElem hi, digM_app]
  cases digM (l.take i) 0 with
  | none => rfl
  | some m => simp only [digM]
theorem dig_none (l : List UInt8) (i : Nat) (h : digM (l.take i) 0 = none) : digM l 0 = none := by
  have := digM_app (l.take i) (l.drop i) 0
  rw [List.take_append_drop, h] at this
  exact this
theorem str_beq (x : List UInt8) (s : ByteArray) : ((bytes x).toList == s.toList) = decide (x = s.data.toList) := by
  rw [ByteArray.toList_eq, ByteArray.toList_eq]
  have : (bytes x).data.toList = x := by simp [bytes]
  rw [this, Bool.eq_iff_iff]
  simp
theorem rdB_len {p : List UInt8} (h : (digs p).length < 1 ∨ 19 < (digs p).length) : rdB p = (0, false) := by
  unfold rdB; rw [if_pos h]
theorem rdB_none {p : List UInt8} (h : ¬ ((digs p).length < 1 ∨ 19 < (digs p).length)) (hd : digM (digs p) 0 = none) : rdB p = (0, false) := by
  unfold rdB; rw [if_neg h, hd]
theorem rdB_some {p : List UInt8} {n : Int} {b : Bool} (h : ¬ ((digs p).length < 1 ∨ 19 < (digs p).length)) (hd : digM (digs p) 0 = some n) (hb : isNeg p = b) : rdB p = ((if b = true then n else wrap64 (-n)), decide (itoa (if b = true then n else wrap64 (-n)) = p)) := by
  unfold rdB; rw [if_neg h, hd, hb]
theorem digM_fit0 {l : List UInt8} {n : Int} (h : digM l 0 = some n) : Fit n := digM_fit l 0 n fit0 h
set_option maxRecDepth 100000 in
set_option maxHeartbeats 8000000 in
theorem number_b (s : ByteArray) (w : World) (hs : s.size ≤ 10000000) :
    Calls Tryd.prog 38 #[.string s] w fun e w' => e = .returned (.tuple #[.int .i64 (rdB s.data.toList).1, .bool (rdB s.data.toList).2]) ∧ Below w.heap.size w w' := by
  have hSl : s.data.toList.length = s.size := by simp
  obtain ⟨z, hz⟩ : ∃ z, z = (rdB s.data.toList).1 := ⟨_, rfl⟩
  obtain ⟨ob, hob⟩ : ∃ ob, ob = (rdB s.data.toList).2 := ⟨_, rfl⟩
  have HR := hide (show rdB s.data.toList = (z, ob) by rw [hz, hob])
  rw [← hz, ← hob]
  have HSL := hide hSl
  have CMP : Hid (∀ x : List UInt8, ((bytes x).toList == s.toList) = decide (x = s.data.toList)) := hide fun x => str_beq x s
  clear hz hob hSl
  have two : s.size = 0 ∨ (0 < s.size ∧ isNeg s.data.toList = false) ∨ (0 < s.size ∧ isNeg s.data.toList = true) := by
    rcases Nat.eq_zero_or_pos s.size with h | h
    · exact .inl h
    · cases hc : isNeg s.data.toList with
      | false => exact .inr (.inl ⟨h, rfl⟩)
      | true => exact .inr (.inr ⟨h, rfl⟩)
  rcases two with h0 | ⟨h1, hN⟩ | ⟨h1, hN⟩
  · have HN : Hid (isNeg s.data.toList = false) := hide (by
      have : s.data.toList = [] := List.eq_nil_of_length_eq_zero (by rw [HSL.out]; exact h0)
      rw [this]; rfl)
    have HD : Hid (s.data.toList = digs s.data.toList) := hide (by unfold digs; rw [HN.out]; rfl)
    have HLD : Hid ((digs s.data.toList).length = s.size) := hide (by rw [← HD.out]; exact HSL.out)
    have g0 : ¬ (0 : Int) < (s.size : Int) := by omega
    have F := HR.out.symm.trans (rdB_len (by rw [HLD.out]; omega))
    obtain ⟨rfl, rfl⟩ : z = 0 ∧ ob = false := by
      injection F with f1 f2
      exact ⟨f1, f2⟩
    have e1 : (s.size : Int) < 1 := by omega
    have H0 := hide h0
    clear h0 F
    go_enter Tryd.func38, Tryd.ntmps38
    go_wp2_with fail
    go_ret2
    exact ⟨rfl, Below.refl _ _⟩
  · have hl0 : 0 < s.data.toList.length := by rw [HSL.out]; exact h1
    have hc0 : s.data.toList[0] = (s[0]'h1) := rfl
    have ec : s.data.toList = (s[0]'h1) :: s.data.toList.drop 1 := by
      have := List.drop_eq_getElem_cons hl0
      rw [List.drop_zero] at this
      exact this
    have hm : ¬ (s[0]'h1) = 45 := fun e => by
      rw [ec] at hN
      simp [isNeg, e] at hN
    have HN := hide hN
    have HD : Hid (s.data.toList = digs s.data.toList) := hide (by unfold digs; rw [HN.out]; rfl)
    have HLD : Hid ((digs s.data.toList).length = s.size) := hide (by rw [← HD.out]; exact HSL.out)
    have g0 : (0 : Int) < (s.size : Int) := by omega
    have k1 : ¬ ((s[0]'h1).toNat : Int) = 45 := fun e => hm (UInt8.toNat_inj.1 (by have : (45 : UInt8).toNat = 45 := rfl; omega))
    have k2 : (((s[0]'h1).toNat : Int) == 45) = false := by simpa using k1
    have HM := hide hm
    clear hm ec hc0 hN hl0
    go_enter Tryd.func38, Tryd.ntmps38
    go_upto_region 4 with (fail)
    have eqS : ((s.size : Int) == (s.size : Int)) = true := by simp
    by_cases hlen : s.size < 1 ∨ 19 < s.size
    · have F := HR.out.symm.trans (rdB_len (by rw [HLD.out]; exact hlen))
      obtain ⟨rfl, rfl⟩ : z = 0 ∧ ob = false := by
        injection F with f1 f2
        exact ⟨f1, f2⟩
      have e1 : ¬ (s.size : Int) < 1 := by omega
      have e2 : (19 : Int) < (s.size : Int) := by omega
      clear F hlen
      go_wp2_with fail
      go_ret2
      exact ⟨rfl, Below.refl _ _⟩
    have NL := hide (show ¬ ((digs s.data.toList).length < 1 ∨ 19 < (digs s.data.toList).length) by rw [HLD.out]; exact hlen)
    have e1 : ¬ (s.size : Int) < 1 := by omega
    have e2 : ¬ (19 : Int) < (s.size : Int) := by omega
    clear hlen
    go_wp2_with fail
    go_loop [5, 6] (fun vn vi => ∃ (i : Nat) (n : Int), i ≤ s.size ∧ vn = .int .i64 n ∧ vi = .int .i64 i ∧ Hid (digM ((digs s.data.toList).take i) 0 = some n)) (fun _ vi => s.size - (intOf vi).toNat)
    case atStart => exact ⟨0, 0, Nat.zero_le _, rfl, rfl, hide rfl⟩
    case round =>
      obtain ⟨i, n, hi, rfl, rfl, HG⟩ := hrel
      by_cases hlt2 : i < s.size
      · have iI : (i : Int) < (s.size : Int) := by omega
        have hil : i < (digs s.data.toList).length := by rw [HLD.out]; exact hlt2
        have hgi : (digs s.data.toList)[i] = s[i] := by
          have : s[i] = s.data.toList[i]'(by simpa using hlt2) := rfl
          rw [this]
          congr 1
          exact HD.out.symm
        have TK := dig_take (digs s.data.toList) i hil
        rw [HG.out, hgi] at TK
        simp only at TK
        by_cases c1 : s[i].toNat < 48
        · rw [if_neg (by omega)] at TK
          have F := HR.out.symm.trans (rdB_none NL.out (dig_none _ _ TK))
          obtain ⟨rfl, rfl⟩ : z = 0 ∧ ob = false := by
            injection F with f1 f2
            exact ⟨f1, f2⟩
          have c1I : (s[i].toNat : Int) < 48 := by omega
          clear F TK hgi c1
          go_wp2_with fail
          go_ret2
          exact ⟨rfl, Below.refl _ _⟩
        by_cases c2 : 57 < s[i].toNat
        · rw [if_neg (by omega)] at TK
          have F := HR.out.symm.trans (rdB_none NL.out (dig_none _ _ TK))
          obtain ⟨rfl, rfl⟩ : z = 0 ∧ ob = false := by
            injection F with f1 f2
            exact ⟨f1, f2⟩
          have c1I : ¬ (s[i].toNat : Int) < 48 := by omega
          have c2I : (57 : Int) < (s[i].toNat : Int) := by omega
          clear F TK hgi c1 c2
          go_wp2_with fail
          go_ret2
          exact ⟨rfl, Below.refl _ _⟩
        rw [if_pos (by omega)] at TK
        have c1I : ¬ (s[i].toNat : Int) < 48 := by omega
        have c2I : ¬ (57 : Int) < (s[i].toNat : Int) := by omega
        have c3I : (48 : Int) ≤ (s[i].toNat : Int) := by omega
        have c4I : (s[i].toNat : Int) ≤ 57 := by omega
        rw [show ((s[i].toNat - 48 : Nat) : Int) = (s[i].toNat : Int) - 48 by omega] at TK
        generalize hm1 : wrap64 (10 * n) = m1 at *
        generalize hm2 : wrap64 (m1 - ((s[i].toNat : Int) - 48)) = m2 at *
        have HG2 := hide TK
        clear TK hgi
        go_wp2_with fail
        go_round
        case rel => exact ⟨i + 1, m2, by omega, congrArg (Value.int .i64) hm2, by go_num, HG2⟩
        case measure => simp [intOf] <;> omega
      · obtain rfl : i = s.size := by omega
        have iI : ¬ (s.size : Int) < (s.size : Int) := by omega
        have TK := HG.out
        rw [← HLD.out, List.take_length] at TK
        have F := HR.out.symm.trans (rdB_some NL.out TK HN.out)
        have fw : Fit (wrap64 (-n)) := wrap_fit _
        simp only [Bool.false_eq_true, if_false, if_true] at F
        generalize hm1 : wrap64 (-n) = m1 at *
        obtain ⟨hz, hob⟩ : z = m1 ∧ ob = decide (itoa m1 = s.data.toList) := by
          injection F with f1 f2
          exact ⟨f1, f2⟩
        have SB : Hid (((bytes (itoa m1)).toList == s.toList) = ob) := hide (by rw [str_beq, hob])
        have NB := hide (number05_b m1 fw.1 fw.2)
        have HZ := hide hz
        clear F TK hz hob fw
        generalize bytes (itoa m1) = X at *
        go_wp2_with fail
        refine (NB.out _).mono ?_
        rintro e w2 ⟨rfl, hb2⟩
        have HB2 := hide hb2
        clear hb2
        go_wp2_with fail
        go_ret2
        exact ⟨by rw [HZ.out, ← SB.out]; rfl, HB2.out⟩
  · have hl0 : 0 < s.data.toList.length := by rw [HSL.out]; exact h1
    have hc0 : s.data.toList[0] = (s[0]'h1) := rfl
    have ec : s.data.toList = (s[0]'h1) :: s.data.toList.drop 1 := by
      have := List.drop_eq_getElem_cons hl0
      rw [List.drop_zero] at this
      exact this
    have hm : (s[0]'h1) = 45 := by
      rw [ec] at hN
      simpa [isNeg] using hN
    have HN := hide hN
    have g0 : (0 : Int) < (s.size : Int) := by omega
    have k1 : ((s[0]'h1).toNat : Int) = 45 := by rw [hm]; rfl
    have k2 : (((s[0]'h1).toNat : Int) == 45) = true := by simp [hm]
    have HD0 : Hid ((s.extract 1 s.size).data.toList = digs s.data.toList) := hide (by
      unfold digs
      rw [HN.out, if_pos rfl, ByteArray.data_extract, Array.toList_extract, List.extract_eq_take_drop]
      rw [List.take_of_length_le (by rw [List.length_drop, HSL.out]; omega)])
    have hds : (s.extract 1 s.size).size = s.size - 1 := by rw [ByteArray.size_extract]; omega
    have HDS := hide hds
    have b1 : (1 : Int) ≤ (s.size : Int) := by omega
    have HM := hide hm
    clear hm ec hc0 hN hds
    go_enter Tryd.func38, Tryd.ntmps38
    go_upto_region 4 with (fail)
    generalize s.extract 1 s.size = D at *
    have HD : Hid (D.data.toList = digs s.data.toList) := HD0
    have HLD : Hid ((digs s.data.toList).length = D.size) := hide (by rw [← HD.out]; simp)
    have nq : ¬ (D.size : Int) = (s.size : Int) := by have := HDS.out; omega
    have eqS : ((D.size : Int) == (s.size : Int)) = false := by simpa using nq
    by_cases hlen : D.size < 1 ∨ 19 < D.size
    · have F := HR.out.symm.trans (rdB_len (by rw [HLD.out]; exact hlen))
      obtain ⟨rfl, rfl⟩ : z = 0 ∧ ob = false := by
        injection F with f1 f2
        exact ⟨f1, f2⟩
      clear F
      by_cases d1 : D.size < 1
      · have e1 : (D.size : Int) < 1 := by omega
        clear hlen d1
        go_wp2_with fail
        go_ret2
        exact ⟨rfl, Below.refl _ _⟩
      · have e1 : ¬ (D.size : Int) < 1 := by omega
        have e2 : (19 : Int) < (D.size : Int) := by omega
        clear hlen d1
        go_wp2_with fail
        go_ret2
        exact ⟨rfl, Below.refl _ _⟩
    have NL := hide (show ¬ ((digs s.data.toList).length < 1 ∨ 19 < (digs s.data.toList).length) by rw [HLD.out]; exact hlen)
    have e1 : ¬ (D.size : Int) < 1 := by omega
    have e2 : ¬ (19 : Int) < (D.size : Int) := by omega
    clear hlen
    go_wp2_with fail
    go_loop [5, 6] (fun vn vi => ∃ (i : Nat) (n : Int), i ≤ D.size ∧ vn = .int .i64 n ∧ vi = .int .i64 i ∧ Hid (digM ((digs s.data.toList).take i) 0 = some n)) (fun _ vi => D.size - (intOf vi).toNat)
    case atStart => exact ⟨0, 0, Nat.zero_le _, rfl, rfl, hide rfl⟩
    case round =>
      obtain ⟨i, n, hi, rfl, rfl, HG⟩ := hrel
      by_cases hlt2 : i < D.size
      · have iI : (i : Int) < (D.size : Int) := by omega
        have hil : i < (digs s.data.toList).length := by rw [HLD.out]; exact hlt2
        have hgi : (digs s.data.toList)[i] = D[i] := by
          have : D[i] = D.data.toList[i]'(by simpa using hlt2) := rfl
          rw [this]
          congr 1
          exact HD.out.symm
        have TK := dig_take (digs s.data.toList) i hil
        rw [HG.out, hgi] at TK
        simp only at TK
        by_cases c1 : D[i].toNat < 48
        · rw [if_neg (by omega)] at TK
          have F := HR.out.symm.trans (rdB_none NL.out (dig_none _ _ TK))
          obtain ⟨rfl, rfl⟩ : z = 0 ∧ ob = false := by
            injection F with f1 f2
            exact ⟨f1, f2⟩
          have c1I : (D[i].toNat : Int) < 48 := by omega
          clear F TK hgi c1
          go_wp2_with fail
          go_ret2
          exact ⟨rfl, Below.refl _ _⟩
        by_cases c2 : 57 < D[i].toNat
        · rw [if_neg (by omega)] at TK
          have F := HR.out.symm.trans (rdB_none NL.out (dig_none _ _ TK))
          obtain ⟨rfl, rfl⟩ : z = 0 ∧ ob = false := by
            injection F with f1 f2
            exact ⟨f1, f2⟩
          have c1I : ¬ (D[i].toNat : Int) < 48 := by omega
          have c2I : (57 : Int) < (D[i].toNat : Int) := by omega
          clear F TK hgi c1 c2
          go_wp2_with fail
          go_ret2
          exact ⟨rfl, Below.refl _ _⟩
        rw [if_pos (by omega)] at TK
        have c1I : ¬ (D[i].toNat : Int) < 48 := by omega
        have c2I : ¬ (57 : Int) < (D[i].toNat : Int) := by omega
        have c3I : (48 : Int) ≤ (D[i].toNat : Int) := by omega
        have c4I : (D[i].toNat : Int) ≤ 57 := by omega
        rw [show ((D[i].toNat - 48 : Nat) : Int) = (D[i].toNat : Int) - 48 by omega] at TK
        generalize hm1 : wrap64 (10 * n) = m1 at *
        generalize hm2 : wrap64 (m1 - ((D[i].toNat : Int) - 48)) = m2 at *
        have HG2 := hide TK
        clear TK hgi
        go_wp2_with fail
        go_round
        case rel => exact ⟨i + 1, m2, by omega, congrArg (Value.int .i64) hm2, by go_num, HG2⟩
        case measure => simp [intOf] <;> omega
      · obtain rfl : i = D.size := by omega
        have iI : ¬ (D.size : Int) < (D.size : Int) := by omega
        have TK := HG.out
        rw [← HLD.out, List.take_length] at TK
        have F := HR.out.symm.trans (rdB_some NL.out TK HN.out)
        have fw : Fit (n) := digM_fit0 TK
        simp only [Bool.false_eq_true, if_false, if_true] at F
        obtain ⟨hz, hob⟩ : z = n ∧ ob = decide (itoa n = s.data.toList) := by
          injection F with f1 f2
          exact ⟨f1, f2⟩
        have SB : Hid (((bytes (itoa n)).toList == s.toList) = ob) := hide (by rw [str_beq, hob])
        have NB := hide (number05_b n fw.1 fw.2)
        have HZ := hide hz
        clear F TK hz hob fw
        generalize bytes (itoa n) = X at *
        go_wp2_with fail
        refine (NB.out _).mono ?_
        rintro e w2 ⟨rfl, hb2⟩
        have HB2 := hide hb2
        clear hb2
        go_wp2_with fail
        go_ret2
        exact ⟨by rw [HZ.out, ← SB.out]; rfl, HB2.out⟩
end Cal
end Go.Proofs.YthcoelkpiflfeaaDoor
