/- Which of two rows goes first: slices.CompareFunc at the program's comparison. -/
import Derived.Test.YtnmaclpjddafnaaDoorRows
import Derived.Test.YtnmaclpjddafnaaDoorSignL
namespace Go.Proofs.YtnmaclpjddafnaaDoor
open Go.RowKit
set_option linter.unusedVariables false
set_option linter.unusedSimpArgs false
def cmpL : List Ch → List Ch → Int
  | [], [] => 0
  | [], _ :: _ => -1
  | _ :: _, [] => 1
  | x :: a, y :: b => if ahC x y = 0 then cmpL a b else ahC x y
theorem cmpL_both {a b : List Ch} {i : Nat} (ha : i < a.length) (hb : i < b.length) : cmpL (a.drop i) (b.drop i) = if ahC a[i] b[i] = 0 then cmpL (a.drop (i + 1)) (b.drop (i + 1)) else ahC a[i] b[i] := by
  rw [List.drop_eq_getElem_cons ha, List.drop_eq_getElem_cons hb, cmpL]
theorem cmpL_over {a b : List Ch} {i : Nat} (ha : i < a.length) (hb : b.length ≤ i) : cmpL (a.drop i) (b.drop i) = 1 := by
  rw [List.drop_eq_getElem_cons ha, List.drop_eq_nil_of_le hb, cmpL]
theorem cmpL_end {a b : List Ch} {i : Nat} (ha : a.length ≤ i) (hb : b.length ≤ i) : cmpL (a.drop i) (b.drop i) = 0 := by
  rw [List.drop_eq_nil_of_le ha, List.drop_eq_nil_of_le hb, cmpL]
theorem cmpL_short {a b : List Ch} {i : Nat} (ha : a.length ≤ i) (hb : i < b.length) : cmpL (a.drop i) (b.drop i) = -1 := by
  rw [List.drop_eq_nil_of_le ha, List.drop_eq_getElem_cons hb, cmpL]
set_option maxRecDepth 100000 in
set_option maxHeartbeats 4000000 in
theorem rows_a (A B : Option Addr) (ca cb : Nat) (a b : List Ch) (w : World) (ha : CRow w A a) (hb : CRow w B b) (hla : a.length ≤ 1000) (hlb : b.length ≤ 1000) :
    Calls Tryd.prog 29 #[.slice A a.length ca, .slice B b.length cb, .func (.func 30) #[] #[]] w fun e w' => e = .returned (.int .i64 (cmpL a b)) ∧ Below w.heap.size w w' := by
  have HA := hide ha
  have HC := hide hb
  clear ha hb
  go_enter Tryd.func29, Tryd.ntmps29
  go_wp2_with fail
  go_loopw [13] (fun vi wr => ∃ i : Nat, i ≤ a.length ∧ i ≤ b.length ∧ vi = .int .i64 i ∧ Hid (cmpL (a.drop i) (b.drop i) = cmpL a b) ∧ Hid (Below w.heap.size w wr)) (fun vi _ => a.length - (intOf vi).toNat)
  case atStart => exact ⟨0, Nat.zero_le _, Nat.zero_le _, rfl, hide rfl, hide (Below.refl _ _)⟩
  case round =>
    obtain ⟨i, hi, hib, rfl, HN, HB⟩ := hrel
    by_cases hlt : i < a.length
    · obtain ⟨p, rfl, hp, hok, h0, h1, h2, h3, h4⟩ := (HA.out.below HB.out).at_ hlt
      have ltI : (i : Int) < (a.length : Int) := by omega
      by_cases hlb2 : i < b.length
      · obtain ⟨q, rfl, hq, hok', g0, g1, g2, g3, g4⟩ := (HC.out.below HB.out).at_ hlb2
        have geI : ¬ (b.length : Int) ≤ (i : Int) := by omega
        have AH := hide (ahead1_a a[i] b[i])
        have HS := hide (cmpL_both hlt hlb2)
        clear hok hok'
        generalize ahC a[i] b[i] = z at *
        generalize a[i] = tk at *
        generalize b[i] = tk' at *
        obtain ⟨r, c, f, s, v⟩ := tk
        obtain ⟨r', c', f', s', v'⟩ := tk'
        simp only at h0 h1 h2 h3 h4 g0 g1 g2 g3 g4 AH
        unfold Ch.val at AH
        simp only at AH
        have hba := (Below.refl wr.heap.size wr).alloc (Nat.le_refl _) (.cells #[.int .i64 r, .int .i64 c, .int .i64 f, .int .i64 s, .int .i64 v] 31)
        have hab : (q.add (i * 5)).block < wr.heap.size := by rw [block_of_add]; exact hq
        replace g0 := (hba.cell hab).trans g0
        replace g1 := (hba.cell (p := ⟨(q.add (i * 5)).block, (q.add (i * 5)).off + 1, none⟩) hab).trans g1
        replace g2 := (hba.cell (p := ⟨(q.add (i * 5)).block, (q.add (i * 5)).off + 2, none⟩) hab).trans g2
        replace g3 := (hba.cell (p := ⟨(q.add (i * 5)).block, (q.add (i * 5)).off + 3, none⟩) hab).trans g3
        replace g4 := (hba.cell (p := ⟨(q.add (i * 5)).block, (q.add (i * 5)).off + 4, none⟩) hab).trans g4
        have HBa := hide hba
        clear hba
        by_cases hz : z = 0
        · subst hz
          have HN2 : Hid (cmpL (a.drop (i + 1)) (b.drop (i + 1)) = cmpL a b) := hide ((HS.out.trans (if_pos rfl)).symm.trans HN.out)
          clear HS
          go_wp2_with fail
          refine (AH.out _).mono ?_
          rintro e w1 ⟨rfl, hb1⟩
          have HB1 := hide (HB.out.trans (((((Below.refl wr.heap.size wr).alloc (Nat.le_refl _) (.cells #[.int .i64 r, .int .i64 c, .int .i64 f, .int .i64 s, .int .i64 v] 31)).alloc (by simp) (.cells #[.int .i64 r', .int .i64 c', .int .i64 f', .int .i64 s', .int .i64 v'] 31)).trans (hb1.mono (by simp; omega))).mono HB.out.size))
          clear hb1
          go_wp2_with fail
          go_roundw
          case rel => exact ⟨i + 1, by omega, by omega, by first | trivial | go_num, HN2, HB1⟩
          case measure => simp [intOf]; omega
        · have E : Hid (cmpL a b = z) := hide (HN.out.symm.trans (HS.out.trans (if_neg hz)))
          have hz' : (z == 0) = false := beq_false_of_ne hz
          have hz2 : (z != 0) = true := by simp [bne, hz']
          clear HS
          go_wp2_with fail
          refine (AH.out _).mono ?_
          rintro e w1 ⟨rfl, hb1⟩
          have HB1 := hide (HB.out.trans (((((Below.refl wr.heap.size wr).alloc (Nat.le_refl _) (.cells #[.int .i64 r, .int .i64 c, .int .i64 f, .int .i64 s, .int .i64 v] 31)).alloc (by simp) (.cells #[.int .i64 r', .int .i64 c', .int .i64 f', .int .i64 s', .int .i64 v'] 31)).trans (hb1.mono (by simp; omega))).mono HB.out.size))
          clear hb1
          go_wp2_with fail
          go_ret
          exact ⟨by rw [E.out]; rfl, HB1.out⟩
      · have E : Hid (cmpL a b = 1) := hide (HN.out.symm.trans (cmpL_over hlt (by omega)))
        have geI : (b.length : Int) ≤ (i : Int) := by omega
        clear hok
        generalize a[i] = tk at *
        obtain ⟨r, c, f, s, v⟩ := tk
        simp only at h0 h1 h2 h3 h4
        go_wp2_with fail
        go_ret
        exact ⟨by rw [E.out]; rfl, HB.out.alloc HB.out.size _⟩
    · obtain rfl : i = a.length := by omega
      have ltI : ¬ (a.length : Int) < (a.length : Int) := by omega
      by_cases hs : a.length < b.length
      · have E : Hid (cmpL a b = -1) := hide (HN.out.symm.trans (cmpL_short (Nat.le_refl _) hs))
        have ltS : (a.length : Int) < (b.length : Int) := by omega
        go_wp2_with fail
        go_ret
        exact ⟨by rw [E.out]; rfl, HB.out⟩
      · have E : Hid (cmpL a b = 0) := hide (HN.out.symm.trans (cmpL_end (Nat.le_refl _) (by omega)))
        have ltS : ¬ (a.length : Int) < (b.length : Int) := by omega
        go_wp2_with fail
        go_ret
        exact ⟨by rw [E.out]; rfl, HB.out⟩
end Go.Proofs.YtnmaclpjddafnaaDoor
