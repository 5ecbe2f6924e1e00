/- The text of a signature: the program's. -/
import Derived.Test.YtnmaclpjddafnaaDoorRows
import Derived.Test.YtnmaclpjddafnaaDoorSignB
import Derived.Test.YtnmaclpjddafnaaDoorSignTx
import Derived.Test.YtnmaclpjddafnaaDoorBuilder
import Derived.Test.YtnmaclpjddafnaaDoorNum23
namespace Go.Proofs.YtnmaclpjddafnaaDoor
open Go.RowKit
open Go.Lib (itoa itoa_length_le)
set_option linter.unusedVariables false
set_option linter.unusedSimpArgs false
theorem own_belowT {w w' : World} {B size n : Nat} {e : TypeId} {v : Value} {xs : List Value} (h : w.ownsRow B e size v n xs) (hb : Below w.heap.size w w') : w'.ownsRow B e size v n xs := by
  refine ⟨h.1, h.2.imp id ?_⟩
  rintro ⟨g, cap, cur, rfl, hge, hh, r⟩
  exact ⟨g, cap, cur, rfl, hge, (hb.block g (Array.getElem?_eq_some_iff.1 hh).1).trans hh, r⟩
theorem isB_belowT {T e : TypeId} {B b : Nat} {bs : List Value} {w w' : World} (h : Lib.IsBuilder T e B b bs w) (hbl : Below w.heap.size w w') : Lib.IsBuilder T e B b bs w' := by
  have hlt := isB_lt h
  rcases h with ⟨hB, v, hb, hown, hne⟩ | ⟨hB, v, hb, hown, hne⟩
  · exact .inl ⟨hB, v, (hbl.block b hlt).trans hb, own_belowT hown hbl, hne⟩
  · exact .inr ⟨hB, v, (hbl.block b hlt).trans hb, own_belowT hown hbl, hne⟩
theorem byteCells_bytesT (l x : List UInt8) : Lib.byteCells l ++ Lib.strCells (bytes x) = Lib.byteCells (l ++ x) := by simp [Lib.byteCells, Lib.strCells, bytes]
theorem byteCells_oneT (l : List UInt8) (c : UInt8) : (Lib.byteCells l ++ [.int .u8 c.toNat] : List Value) = Lib.byteCells (l ++ [c]) := by simp [Lib.byteCells]
/-- A choice's numbers, in the order in which they count. -/
def numN (t : Ch) : Nat → Int
  | 0 => t.r
  | 1 => t.c
  | 2 => t.v
  | 3 => t.f
  | _ => t.s
def chP (t : Ch) : Nat → List UInt8
  | 0 => []
  | j + 1 => (chP t j ++ (if j = 0 then [] else [46])) ++ itoa (numN t j)
theorem chP_all (t : Ch) : chP t 5 = chT t := by simp [chP, chT, numN]
theorem chP_le (t : Ch) (h : t.ok) : ∀ j, (chP t j).length ≤ j * 22
  | 0 => by simp [chP]
  | j + 1 => by
    have hj := chP_le t h j
    have hq : (itoa (numN t j)).length ≤ 21 := by
      obtain ⟨h0, h1, h2, h3, h4⟩ := h
      unfold numN
      split
      · exact itoa_length_le _ h0.1 h0.2
      · exact itoa_length_le _ h1.1 h1.2
      · exact itoa_length_le _ h4.1 h4.2
      · exact itoa_length_le _ h2.1 h2.2
      · exact itoa_length_le _ h3.1 h3.2
    simp only [chP, List.length_append]
    split <;> simp <;> omega
theorem numN_fit (t : Ch) (h : t.ok) (j : Nat) : -9223372036854775808 ≤ numN t j ∧ numN t j ≤ 9223372036854775807 := by
  obtain ⟨h0, h1, h2, h3, h4⟩ := h
  unfold numN
  split
  · exact h0
  · exact h1
  · exact h4
  · exact h2
  · exact h3
theorem idx_num (t : Ch) : ∀ (j : Nat), j < 5 → ∀ (w : World), (Instr.index 50 (.agg #[.int .i64 t.r, .int .i64 t.c, .int .i64 t.v, .int .i64 t.f, .int .i64 t.s]) (.int .i64 (j : Int))).run Tryd.prog w = .ok (.int .i64 (numN t j)) w
  | 0, _, w => by kernel_rfl
  | 1, _, w => by kernel_rfl
  | 2, _, w => by kernel_rfl
  | 3, _, w => by kernel_rfl
  | 4, _, w => by kernel_rfl
  | j + 5, h, w => absurd h (by omega)
set_option maxRecDepth 100000 in
set_option maxHeartbeats 4000000 in
theorem text_run (A : Option Addr) (cap : Nat) (l : List Ch) (w : World) (h : CRow w A l) (hl : l.length ≤ 100000) (hp : Pow w) (hm : mayL l = true) (h0 : 0 < l.length) :
    Calls Tryd.prog 10 #[.slice A l.length cap] w fun e w' => e = .returned (.tuple #[.string (bytes (txS l l.length)), .int .i64 0]) ∧ Below w.heap.size w w' := by
  have H := hide h
  have HP := hide hp
  have M := hide (May_big A cap l w h (by omega))
  rw [hm] at M
  have MO := hide (fun i (hi : i < l.length) => mayC_ok (mayL_at hm i hi).1)
  have TL := hide (txS_le l MO.out)
  have hn0 : ((l.length : Int) == 0) = false := by
    have : ¬ (l.length : Int) = 0 := by omega
    simpa using this
  clear h hp hm h0
  go_enter Tryd.func10, Tryd.ntmps10
  go_wp2_with fail
  refine M.out.mono ?_
  rintro e w0 ⟨rfl, hb0⟩
  have H0 := hide (H.out.below hb0)
  have HP0 := hide (HP.out.below hb0 (Nat.le_refl _))
  have B0 := hide hb0
  have hs0 := hb0.size
  clear hb0
  go_wp2_with fail
  go_loopw [17] (fun vi wr => ∃ k : Nat, k ≤ l.length ∧ vi = .int .i64 k ∧ Lib.IsBuilder 46 5 w0.heap.size w0.heap.size (Lib.byteCells (txS l k)) wr ∧ Below w0.heap.size w0 wr) (fun vi _ => l.length - (intOf vi).toNat)
  case atStart => exact ⟨0, by omega, rfl, Lib.fresh_isBuilder _ _ w0, (Below.refl _ _).alloc (Nat.le_refl _) _⟩
  case round =>
    obtain ⟨k, hk, rfl, hI, hB⟩ := hrel
    have hsz := hB.size
    have HI := hide hI
    have HB := hide hB
    by_cases hlt : k < l.length
    · obtain ⟨a, rfl, ha, hok, h0, h1, h2, h3, h4⟩ := (H0.out.below hB).at_ hlt
      have hl1 := TL.out k (by omega)
      have hl2 : (txS l k).length ≤ 11000000 := by omega
      have hbl := isB_lt hI
      have hltI : (k : Int) < (l.length : Int) := by omega
      have hsb : wr.heap.size ≠ w0.heap.size := by omega
      have IX := hide (idx_num l[k])
      have NF := hide (numN_fit l[k] hok)
      have CL := hide (chP_le l[k] hok)
      have E0 : Hid (k = 0 → txS l (k + 1) = [] ++ chT l[k]) := hide fun h => by
        subst h
        simp [txS, List.getD, hlt]
      have E1 : Hid (k ≠ 0 → txS l (k + 1) = (txS l k ++ [32]) ++ chT l[k]) := hide fun h => by
        simp [txS, h, List.getD, hlt]
      have CA := hide (chP_all l[k])
      have CS : Hid (∀ j, chP l[k] (j + 1) = (chP l[k] j ++ (if j = 0 then [] else [46])) ++ itoa (numN l[k] j)) := hide fun j => rfl
      clear hI hB hok
      generalize chT l[k] = TT at *
      generalize hCP : chP l[k] = CP at *
      have CP0 : Hid (CP 0 = []) := hide (by rw [← hCP]; rfl)
      generalize hNN : numN l[k] = NN at *
      generalize l[k] = tk at *
      clear hCP hNN
      obtain ⟨r, c, f, s, v⟩ := tk
      simp only at h0 h1 h2 h3 h4 IX
      have bk := Blk.new wr 31 #[.int .i64 r, .int .i64 c, .int .i64 f, .int .i64 s, .int .i64 v]
      have hb1 := (Below.refl wr.heap.size wr).alloc (Nat.le_refl _) (.cells #[.int .i64 r, .int .i64 c, .int .i64 f, .int .i64 s, .int .i64 v] 31)
      have HB1 := hide hb1
      have BK := hide bk
      clear hb1 bk
      by_cases hz : (0 : Int) < (k : Int)
      have hpos : k ≠ 0 := by omega
      go_wp2_with fail
      refine (write_byte w0.heap.size w0.heap.size (Lib.byteCells (txS l k)) 32 _ (isB_alloc HI.out _) (by simp only [Lib.byteCells_length]; omega) (by simp; omega)).mono ?_
      rintro e w1 ⟨rfl, i1, b1, k1⟩
      have hblk := k1 wr.heap.size _ BK.out (by simpa using hsb) (by intro c fz; simp)
      have q : ∀ j v', (#[.int .i64 r, .int .i64 c, .int .i64 f, .int .i64 s, .int .i64 v] : Array Value)[j]? = some v' → w1.cell? ⟨wr.heap.size, j, none⟩ = some v' := fun j v' hj => by rw [Lib.cell_of_heap hblk]; exact hj
      have q0 := q 0 _ rfl
      have q1 := q 1 _ rfl
      have q2 := q 2 _ rfl
      have q3 := q 3 _ rfl
      have q4 := q 4 _ rfl
      have hs1 := b1.size
      have I1 : Hid (Lib.IsBuilder 46 5 w0.heap.size w0.heap.size (Lib.byteCells ((txS l k ++ [32]) ++ CP 0)) w1) := hide (by
        rw [CP0.out, List.append_nil, ← byteCells_oneT]
        exact .inr i1)
      have B1 := hide (HB.out.trans ((HB1.out.mono hsz).trans b1))
      have hL : (txS l k ++ [32]).length ≤ 11000001 := by simp; omega
      have HE := hide (E1.out hpos)
      clear i1 b1 k1 hblk q
      generalize txS l k ++ [32] = PR at *
      rotate_left
      have HK := hide (show k = 0 by omega)
      have hz2 : decide ((0 : Int) < (k : Int)) = false := by simpa using hz
      have q0 := BK.out.cell 0
      have q1 := BK.out.cell 1
      have q2 := BK.out.cell 2
      have q3 := BK.out.cell 3
      have q4 := BK.out.cell 4
      simp only [List.getElem?_toArray, List.getElem?_cons_zero, List.getElem?_cons_succ] at q0 q1 q2 q3 q4
      obtain ⟨PR, hPR⟩ : ∃ PR : List UInt8, PR = [] := ⟨[], rfl⟩
      have I1 : Hid (Lib.IsBuilder 46 5 w0.heap.size w0.heap.size (Lib.byteCells (PR ++ CP 0)) (wr.alloc (.cells #[.int .i64 r, .int .i64 c, .int .i64 f, .int .i64 s, .int .i64 v] 31))) := hide (by
        rw [hPR, CP0.out]
        have := isB_alloc HI.out (.cells #[.int .i64 r, .int .i64 c, .int .i64 f, .int .i64 s, .int .i64 v] 31)
        rw [HK.out] at this
        exact this)
      have B1 := hide (HB.out.trans (HB1.out.mono hsz))
      have hL : PR.length ≤ 11000001 := by rw [hPR]; simp
      have HE : Hid (txS l (k + 1) = PR ++ TT) := hide (by rw [hPR]; exact E0.out HK.out)
      clear hPR
      rotate_left
      all_goals
        go_wp2_with fail
        go_loopw [36] (fun vj wq => ∃ j : Nat, j ≤ 5 ∧ vj = .int .i64 j ∧ Hid (Lib.IsBuilder 46 5 w0.heap.size w0.heap.size (Lib.byteCells (PR ++ CP j)) wq) ∧ Hid (Below w0.heap.size w0 wq)) (fun vj _ => 5 - (intOf vj).toNat)
        case atStart => exact ⟨0, by omega, rfl, I1, B1⟩
        case round =>
          obtain ⟨j, hj, rfl, I2, B2⟩ := hrel
          have hs2 := B2.out.size
          by_cases hj5 : j < 5
          · have hj5I : (j : Int) < 5 := by omega
            have ix := IX.out j hj5
            have nf := NF.out j
            have cl := CL.out j
            have cs := hide (CS.out j)
            have hp2 := hide (HP0.out.below B2.out (Nat.le_refl _))
            have IT := hide (fun (w' : World) (hp : Pow w') => itoa_a (NN j) w' nf.1 nf.2 hp)
            have il : (bytes (itoa (NN j))).size ≤ 21 := by rw [bytes_size]; exact itoa_length_le _ nf.1 nf.2
            have SC : Hid (∀ x : List UInt8, Lib.byteCells x ++ Lib.strCells (bytes (itoa (NN j))) = Lib.byteCells (x ++ itoa (NN j))) := hide fun x => byteCells_bytesT _ _
            clear nf
            have hL2 : (PR ++ CP j).length ≤ 11000200 := by rw [List.length_append]; omega
            generalize bytes (itoa (NN j)) = SI at *
            by_cases hjz : (0 : Int) < (j : Int)
            · have hjn : j ≠ 0 := by omega
              go_wp2_with fail
              refine (write_byte w0.heap.size w0.heap.size (Lib.byteCells (PR ++ CP j)) 46 _ I2.out (by simp only [Lib.byteCells_length]; omega) hs2).mono ?_
              rintro e w2 ⟨rfl, i3, b3, k3⟩
              have hs3 := b3.size
              have hp3 := hide (HP0.out.below (B2.out.trans b3) (Nat.le_refl _))
              have B3 := hide (B2.out.trans b3)
              have I3 : Hid (Lib.IsBuilder 46 5 w0.heap.size w0.heap.size (Lib.byteCells ((PR ++ CP j) ++ [46])) w2) := hide (by
                rw [← byteCells_oneT]
                exact .inr i3)
              have HJ : Hid (PR ++ CP (j + 1) = ((PR ++ CP j) ++ [46]) ++ itoa (NN j)) := hide (by rw [cs.out, if_neg hjn]; simp only [List.append_assoc])
              have hL3 : ((PR ++ CP j) ++ [46]).length ≤ 11000300 := by rw [List.length_append]; simp at hL2 ⊢; omega
              clear i3 b3 k3
              generalize (PR ++ CP j) ++ [46] = QR at *
              go_wp2_with fail
              refine (IT.out _ hp3.out).mono ?_
              rintro e w3 ⟨rfl, hb3⟩
              have I4 := hide (isB_belowT I3.out hb3)
              have B4 := hide (B3.out.trans (hb3.mono B3.out.size))
              clear hb3
              go_wp2_with fail
              refine (write_string w0.heap.size w0.heap.size _ SI _ I4.out (by simp only [Lib.byteCells_length]; omega) B4.out.size).mono ?_
              rintro e w4 ⟨rfl, i5, b5, k5⟩
              rw [SC.out, ← HJ.out] at i5
              have B5 := hide (B4.out.trans b5)
              have I5 : Hid (Lib.IsBuilder 46 5 w0.heap.size w0.heap.size (Lib.byteCells (PR ++ CP (j + 1))) w4) := hide (.inr i5)
              clear i5 b5 k5
              go_wp2_with fail
              go_roundw
              case rel => exact ⟨j + 1, by omega, by go_num, I5, B5⟩
              case measure => simp [intOf]; omega
            · have HJ0 := hide (show j = 0 by omega)
              have hjz2 : decide ((0 : Int) < (j : Int)) = false := by simpa using hjz
              have HJ : Hid (PR ++ CP (j + 1) = (PR ++ CP j) ++ itoa (NN j)) := hide (by rw [cs.out, if_pos HJ0.out]; simp only [List.append_assoc, List.append_nil])
              go_wp2_with fail
              refine (IT.out _ hp2.out).mono ?_
              rintro e w3 ⟨rfl, hb3⟩
              have I4 := hide (isB_belowT I2.out hb3)
              have B4 := hide (B2.out.trans (hb3.mono B2.out.size))
              clear hb3
              go_wp2_with fail
              refine (write_string w0.heap.size w0.heap.size _ SI _ I4.out (by simp only [Lib.byteCells_length]; omega) B4.out.size).mono ?_
              rintro e w4 ⟨rfl, i5, b5, k5⟩
              rw [SC.out, ← HJ.out] at i5
              have B5 := hide (B4.out.trans b5)
              have I5 : Hid (Lib.IsBuilder 46 5 w0.heap.size w0.heap.size (Lib.byteCells (PR ++ CP (j + 1))) w4) := hide (.inr i5)
              clear i5 b5 k5
              go_wp2_with fail
              go_roundw
              case rel => exact ⟨j + 1, by omega, by go_num, I5, B5⟩
              case measure => simp [intOf]; omega
          · obtain rfl : j = 5 := by omega
            go_wp2_with fail
            go_roundw
            case rel => exact ⟨k + 1, by omega, by go_num, by rw [HE.out, ← CA.out]; exact I2.out, B2.out⟩
            case measure => simp [intOf]; omega
    · obtain rfl : k = l.length := by omega
      clear hI hB
      have hltI : ¬ (l.length : Int) < (l.length : Int) := by omega
      go_wp2_with fail
      refine (Tryd.Builder_String_any _ _ _ _ HI.out hsz).mono ?_
      rintro e w' ⟨rfl, hb⟩
      go_wp2_with fail
      go_ret2
      exact ⟨rfl, B0.out.trans ((HB.out.trans hb).mono hs0)⟩
/-- What is told of a row's text. -/
def txR (l : List Ch) : List UInt8 := if mayL l = true then txtL l else []
def txE (l : List Ch) : Int := if mayL l = true then 0 else 2
set_option maxRecDepth 100000 in
set_option maxHeartbeats 2000000 in
/-- The program's Text. -/
theorem Text_a (A : Option Addr) (cap : Nat) (l : List Ch) (w : World) (h : CRow w A l) (hl : l.length ≤ 100000) (hp : Pow w) :
    Calls Tryd.prog 10 #[.slice A l.length cap] w fun e w' => e = .returned (.tuple #[.string (bytes (txR l)), .int .i64 (txE l)]) ∧ Below w.heap.size w w' := by
  rcases hm : mayL l with _ | _
  · have e1 : txR l = [] := by unfold txR; rw [hm]; rfl
    have e2 : txE l = 2 := by unfold txE; rw [hm]; rfl
    have M := hide (May_big A cap l w h (by omega))
    rw [hm] at M
    rw [e1, e2]
    clear e1 e2 hm h hp
    go_enter Tryd.func10, Tryd.ntmps10
    go_wp2_with fail
    refine M.out.mono ?_
    rintro e w0 ⟨rfl, hb0⟩
    go_wp2_with fail
    go_ret2
    exact ⟨rfl, hb0⟩
  · have e2 : txE l = 0 := by unfold txE; rw [hm]; rfl
    by_cases h0 : l.length = 0
    · have e1 : txR l = [45] := by unfold txR txtL; rw [hm, if_pos rfl, if_pos h0]
      have M := hide (May_big A cap l w h (by omega))
      rw [hm] at M
      have hn0 : ((l.length : Int) == 0) = true := by simp [h0]
      rw [e1, e2]
      have HL := hide h0
      clear e1 e2 hm h hp h0
      go_enter Tryd.func10, Tryd.ntmps10
      go_wp2_with fail
      refine M.out.mono ?_
      rintro e w0 ⟨rfl, hb0⟩
      go_wp2_with fail
      go_ret2
      exact ⟨rfl, hb0⟩
    · have e1 : txR l = txS l l.length := by unfold txR txtL; rw [hm, if_pos rfl, if_neg h0]
      rw [e1, e2]
      exact text_run A cap l w h hl hp hm (by omega)
end Go.Proofs.YtnmaclpjddafnaaDoor
