/- The text of a schedule: the program's. -/
import Derived.Test.YtaakndenkfkijaaDoorRows
import Derived.Test.YtaakndenkfkijaaDoorBuilder
import Derived.Test.YtaakndenkfkijaaDoorWitTb
import Derived.Test.YtaakndenkfkijaaDoorWitW
namespace Go.Proofs.YtaakndenkfkijaaDoor
open Go.RowKit
open Go.Lib (itoa itoa_length_le)
set_option linter.unusedVariables false
set_option linter.unusedSimpArgs false
theorem own_belowT {w w' : World} {B size n : Nat} {e : TypeId} {v : Value} {xs : List Value} (h : w.ownsRow B e size v n xs) (hb : Below w.heap.size w w') : w'.ownsRow B e size v n xs := by
  refine ⟨h.1, h.2.imp id ?_⟩
  rintro ⟨g, cap, cur, rfl, hge, hh, r⟩
  exact ⟨g, cap, cur, rfl, hge, (hb.block g (Array.getElem?_eq_some_iff.1 hh).1).trans hh, r⟩
theorem isB_belowT {T e : TypeId} {B b : Nat} {bs : List Value} {w w' : World} (h : Lib.IsBuilder T e B b bs w) (hbl : Below w.heap.size w w') : Lib.IsBuilder T e B b bs w' := by
  have hlt := isB_lt h
  rcases h with ⟨hB, v, hb, hown, hne⟩ | ⟨hB, v, hb, hown, hne⟩
  · exact .inl ⟨hB, v, (hbl.block b hlt).trans hb, own_belowT hown hbl, hne⟩
  · exact .inr ⟨hB, v, (hbl.block b hlt).trans hb, own_belowT hown hbl, hne⟩
theorem byteCells_bytesT (l x : List UInt8) : Lib.byteCells l ++ Lib.strCells (bytes x) = Lib.byteCells (l ++ x) := by simp [Lib.byteCells, Lib.strCells, bytes]
theorem byteCells_oneT (l : List UInt8) (c : UInt8) : (Lib.byteCells l ++ [.int .u8 c.toNat] : List Value) = Lib.byteCells (l ++ [c]) := by simp [Lib.byteCells]
namespace Wit
theorem word_one {p : Pk} (h : (ptT p).isSome = true) : wordT p = oneT p := by
  have := word_yes h
  unfold oneT
  rw [this]
  rfl
theorem one_yes {p : Pk} (h : (ptT p).isSome = true) : ¬ oneT p = [] := fun e => by rw [one_none e] at h; cases h
theorem one_not {p : Pk} (h : (ptT p).isSome = false) : oneT p = [] := by
  unfold oneT
  cases hp : ptT p with
  | none => rfl
  | some w => rw [hp] at h; cases h
set_option maxRecDepth 100000 in
set_option maxHeartbeats 4000000 in
theorem Text_a (A : Option Addr) (cap : Nat) (l : List Pk) (w : World) (h : PRow w A l) (hl : l.length ≤ 100000) (he : Env w) :
    Calls Tryd.prog 4 #[.slice A l.length cap] w fun e w' => e = .returned (.tuple #[.string (bytes (txR l)), .int .i64 (txE l)]) ∧ Below w.heap.size w w' := by
  by_cases h0 : l.length = 0
  · have e1 : txR l = [45] := by unfold txR; rw [txtP_0 h0]; rfl
    have e2 : txE l = 0 := by unfold txE; rw [txtP_0 h0]; rfl
    have hn0 : ((l.length : Int) == 0) = true := by simp [h0]
    rw [e1, e2]
    have HL := hide h0
    clear e1 e2 h h0 he
    go_enter Tryd.func4, Tryd.ntmps4
    go_wp2_with fail
    go_ret2
    exact ⟨rfl, Below.refl _ _⟩
  have H := hide h
  have HE := hide he
  have hn0 : ((l.length : Int) == 0) = false := by
    have : ¬ (l.length : Int) = 0 := by omega
    simpa using this
  have OKS : Hid (∀ i (h : i < l.length), (l[i]).ok) := hide fun i hi => (h.at_ hi).choose_spec.2.2.1
  have TL := hide (fun k hk => ttP_len OKS.out k hk)
  have YES := hide (fun h => txtP_yes (l := l) (by omega) h)
  have NO := hide (fun i hi h => @txtP_no l i hi h)
  have RX := hide (show txR l = (txtP l).getD [] from rfl)
  have RE := hide (show txE l = if (txtP l).isSome = true then 0 else 2 from rfl)
  generalize txR l = tr at *
  generalize txE l = te at *
  have HL := hide h0
  have T0 := hide (ttP_0 l)
  clear h h0 he
  go_enter Tryd.func4, Tryd.ntmps4
  go_wp2_with fail
  go_loopw [14] (fun vi wr => ∃ (k : Nat), k ≤ l.length ∧ vi = .int .i64 k ∧ Hid (Lib.IsBuilder 37 5 w.heap.size w.heap.size (Lib.byteCells (ttP l k)) wr) ∧ Hid (∀ i (h : i < l.length), i < k → ¬ oneT l[i] = []) ∧ Hid (Below w.heap.size w wr)) (fun vi _ => l.length - (intOf vi).toNat)
  case atStart => exact ⟨0, by omega, rfl, hide (Lib.fresh_isBuilder _ _ w), hide (fun i _ h => absurd h (Nat.not_lt_zero i)), hide ((Below.refl _ _).alloc (Nat.le_refl _) _)⟩
  case round =>
    obtain ⟨k, hk, rfl, HI, HN, HB⟩ := hrel
    have hsz := HB.out.size
    by_cases hlt : k < l.length
    · obtain ⟨a, rfl, ha, hok, h0, h1, h2, h3, h4, h5⟩ := (H.out.below HB.out).at_ hlt
      have hltI : (k : Int) < (l.length : Int) := by omega
      have hl1 : (ttP l k).length ≤ 30000000 := by
        have := TL.out k (by omega)
        omega
      have hbl := isB_lt HI.out
      have O := hide (fun w' => word_a l[k] hok w')
      have ol : (bytes (wordT l[k])).size ≤ 200 := by rw [bytes_size]; exact word_len hok
      have SC : Hid (∀ x : List UInt8, Lib.byteCells x ++ Lib.strCells (bytes (wordT l[k])) = Lib.byteCells (x ++ wordT l[k])) := hide fun x => byteCells_bytesT _ _
      cases hw : (ptT l[k]).isSome with
      | false =>
        have R1 : tr = [] := by rw [RX.out, NO.out k hlt (one_not hw)]; rfl
        have R2 : te = 2 := by rw [RE.out, NO.out k hlt (one_not hw)]; rfl
        subst R1 R2
        rw [hw] at O
        clear hok hw ol SC
        generalize bytes (wordT l[k]) = T at *
        generalize l[k] = tk at *
        obtain ⟨pk, r, c, f, s, v⟩ := tk
        simp only [pkC] at O h0 h1 h2 h3 h4 h5
        have hb1 := (Below.refl wr.heap.size wr).alloc (Nat.le_refl _) (.cells #[.int .u8 pk, .int .i64 r, .int .i64 c, .int .i64 f, .int .i64 s, .int .i64 v] 39)
        have HE1 := hide (HE.out.below (HB.out.trans (hb1.mono hsz)) (Nat.le_refl _))
        have HB1 := hide (HB.out.trans (hb1.mono hsz))
        clear hb1
        go_wp2_with fail
        refine (O.out _ HE1.out).mono ?_
        rintro e w1 ⟨rfl, hb1⟩
        have HB2 := hide (HB1.out.trans (hb1.mono HB1.out.size))
        clear hb1
        go_wp2_with fail
        go_ret2
        exact ⟨rfl, HB2.out⟩
      | true =>
        have HN2 : Hid (∀ i (h : i < l.length), i < k + 1 → ¬ oneT l[i] = []) := hide fun i hi hik => by
          rcases Nat.lt_or_ge i k with h7 | h7
          · exact HN.out i hi h7
          · obtain rfl : i = k := by omega
            exact one_yes hw
        have E0 : Hid (k = 0 → ttP l (k + 1) = ttP l k ++ wordT l[k]) := hide fun h => by
          subst h
          rw [ttP_1 l (by omega), T0.out, word_one hw]
          rfl
        have E1 : Hid (k ≠ 0 → ttP l (k + 1) = (ttP l k ++ [32]) ++ wordT l[k]) := hide fun h => by
          rw [ttP_s l k hlt h, word_one hw]
        rw [hw] at O
        clear hok hw
        generalize hTW : wordT l[k] = TW at *
        clear hTW
        generalize bytes TW = T at *
        generalize l[k] = tk at *
        obtain ⟨pk, r, c, f, s, v⟩ := tk
        simp only [pkC] at O h0 h1 h2 h3 h4 h5
        have hb1 := (Below.refl wr.heap.size wr).alloc (Nat.le_refl _) (.cells #[.int .u8 pk, .int .i64 r, .int .i64 c, .int .i64 f, .int .i64 s, .int .i64 v] 39)
        have HE1 := hide (HE.out.below (HB.out.trans (hb1.mono hsz)) (Nat.le_refl _))
        have HB1 := hide (HB.out.trans (hb1.mono hsz))
        have HI1 := hide (isB_alloc HI.out (.cells #[.int .u8 pk, .int .i64 r, .int .i64 c, .int .i64 f, .int .i64 s, .int .i64 v] 39))
        clear hb1
        by_cases hz : (0 : Int) < (k : Int)
        · have EE := hide (E1.out (by omega))
          go_wp2_with fail
          refine (O.out _ HE1.out).mono ?_
          rintro e w1 ⟨rfl, hb1⟩
          have HB2 := hide (HB1.out.trans (hb1.mono HB1.out.size))
          have HI2 := hide (isB_belowT HI1.out hb1)
          clear hb1
          go_wp2_with fail
          refine (write_byte w.heap.size w.heap.size (Lib.byteCells (ttP l k)) 32 _ HI2.out (by simp only [Lib.byteCells_length]; omega) HB2.out.size).mono ?_
          rintro e w2 ⟨rfl, i3, b3, k3⟩
          have HB3 := hide (HB2.out.trans b3)
          have HI3 : Hid (Lib.IsBuilder 37 5 w.heap.size w.heap.size (Lib.byteCells (ttP l k ++ [32])) w2) := hide (by
            rw [← byteCells_oneT]
            exact .inr i3)
          have hL3 : (ttP l k ++ [32]).length ≤ 30000001 := by rw [List.length_append]; simp; omega
          clear i3 b3 k3
          generalize ttP l k ++ [32] = QR at *
          go_wp2_with fail
          refine (write_string w.heap.size w.heap.size _ T _ HI3.out (by simp only [Lib.byteCells_length]; omega) HB3.out.size).mono ?_
          rintro e w4 ⟨rfl, i5, b5, k5⟩
          rw [SC.out, ← EE.out] at i5
          have HB5 := hide (HB3.out.trans b5)
          have HI5 : Hid (Lib.IsBuilder 37 5 w.heap.size w.heap.size (Lib.byteCells (ttP l (k + 1))) w4) := hide (.inr i5)
          clear i5 b5 k5
          go_wp2_with fail
          go_roundw
          case rel => exact ⟨k + 1, by omega, by go_num, HI5, HN2, HB5⟩
          case measure => simp [intOf]; omega
        · have EE := hide (E0.out (by omega))
          have hz2 : decide ((0 : Int) < (k : Int)) = false := by simpa using hz
          go_wp2_with fail
          refine (O.out _ HE1.out).mono ?_
          rintro e w1 ⟨rfl, hb1⟩
          have HB2 := hide (HB1.out.trans (hb1.mono HB1.out.size))
          have HI2 := hide (isB_belowT HI1.out hb1)
          clear hb1
          go_wp2_with fail
          refine (write_string w.heap.size w.heap.size _ T _ HI2.out (by simp only [Lib.byteCells_length]; omega) HB2.out.size).mono ?_
          rintro e w4 ⟨rfl, i5, b5, k5⟩
          rw [SC.out, ← EE.out] at i5
          have HB5 := hide (HB2.out.trans b5)
          have HI5 : Hid (Lib.IsBuilder 37 5 w.heap.size w.heap.size (Lib.byteCells (ttP l (k + 1))) w4) := hide (.inr i5)
          clear i5 b5 k5
          go_wp2_with fail
          go_roundw
          case rel => exact ⟨k + 1, by omega, by go_num, HI5, HN2, HB5⟩
          case measure => simp [intOf]; omega
    · obtain rfl : k = l.length := by omega
      have hltI : ¬ (l.length : Int) < (l.length : Int) := by omega
      have Y := YES.out fun i hi => HN.out i hi hi
      have R1 : Hid (tr = ttP l l.length) := hide (by rw [RX.out, Y]; rfl)
      have R2 : te = 0 := by rw [RE.out, Y]; rfl
      subst R2
      clear Y
      go_wp2_with fail
      refine (Tryd.Builder_String_any _ _ _ _ HI.out hsz).mono ?_
      rintro e w' ⟨rfl, hb⟩
      have HB2 := hide (HB.out.trans hb)
      clear hb
      go_wp2_with fail
      go_ret2
      exact ⟨by rw [R1.out]; rfl, HB2.out⟩
end Wit
end Go.Proofs.YtaakndenkfkijaaDoor
