/- A line read as an instruction: readInstr. -/
import Derived.Test.YtegpimaakgledaaDoorRows
import Derived.Test.YtegpimaakgledaaDoorCodE
import Derived.LoopN
namespace Go.Proofs.YtegpimaakgledaaDoor
open Go Go.RowKit
open Go.Lib (itoa atoiAll parseIntB trimPrefix hasPrefix)
set_option linter.unusedVariables false
set_option linter.unusedSimpArgs false
namespace Cod
def RiPost (l : List UInt8) (e : Ending) : Prop := ∃ r, RiR l r ∧ ((r = none ∧ e = .returned (.tuple #[.agg #[.int .u8 0, .int .i64 0], .bool false])) ∨ ∃ x : In, r = some x ∧ x.ok ∧ 1 ≤ x.op ∧ x.op ≤ 29 ∧ e = .returned (.tuple #[x.val, .bool true]))
theorem opFrom_end (nm : List UInt8) (f : Nat) : opFrom nm f 30 = none := by
  cases f with
  | zero => rfl
  | succ f => rfl
theorem nm_toList (o : Int) : (opO o).nm = bytes (opO o).nm.data.toList := by
  cases (opO o).nm
  simp [bytes]
theorem bytes_eq (a b : List UInt8) : ((bytes a).toList == (bytes b).toList) = decide (a = b) := by
  have e : ∀ l, (bytes l).toList = l := fun l => by
    rw [ByteArray.toList_eq]; simp [bytes]
  rw [e, e]
  by_cases h : a = b
  · rw [decide_eq_true h, h]; simp
  · rw [decide_eq_false h]; simpa using h
/-- The search of the name, behind the number. -/
theorem dummy : True := trivial
set_option maxRecDepth 100000 in
set_option maxHeartbeats 8000000 in
theorem readInstr_c (l : List UInt8) (w : World) (H : Ops w) (hE : Env w) (hl : l.length ≤ 1000000) :
    Calls Tryd.prog 52 #[.string (bytes l)] w fun e w' => RiPost l e ∧ Below w.heap.size w w' := by
  have hb1 := (Below.refl w.heap.size w).alloc (Nat.le_refl _) (.cells #[.int .u8 0, .int .i64 0] 47)
  have k1 := Blk.new w 47 #[.int .u8 0, .int .i64 0]
  have CL := hide (cut1_len 32 l)
  have HO := hide H
  have HE := hide hE
  go_enter Tryd.func52, Tryd.ntmps52
  go_upto_region 1 with (fail)
  obtain ⟨w1, hw1⟩ : ∃ z, w.alloc (.cells #[.int .u8 0, .int .i64 0] 47) = z := ⟨_, rfl⟩
  rw [hw1] at hb1 k1 ⊢
  obtain ⟨X, hX⟩ : ∃ X, w.heap.size = X := ⟨_, rfl⟩
  rw [hX] at k1 hb1 ⊢
  have HX := hide hX
  have HB1 := hide hb1
  have K1 := hide k1
  have HL1 := hide (show X ≤ w1.heap.size by have := k1.lt; omega)
  have CC := hide (cut_c 32 l w1 (hE.below hb1 (by rw [hX]; exact Nat.le_refl _)) hl)
  clear hb1 k1 hw1 hX hE H
  go_wp2_with fail
  refine CC.out.mono ?_
  rintro e w2 ⟨rfl, hb2⟩
  have HB2 := hide (HB1.out.trans (hb2.mono HL1.out))
  have HL2 := hide (Nat.le_trans HL1.out hb2.size)
  have K2 := hide (K1.out.below hb2 K1.out.lt)
  clear hb2 CC HB1 HL1 K1
  have REST : Hid (∀ (n : Int), Wit.Fit n → ((cut1 32 l).2.2 = true ∧ parseIntB 64 (cut1 32 l).2.1 = .ok n ∨ (cut1 32 l).2.2 = false ∧ n = 0) → ∀ r, ((r = none ∧ opOf (cut1 32 l).1 = none) ∨ ∃ o : Nat, r = some ⟨(o : Int), n⟩ ∧ opOf (cut1 32 l).1 = some o) → RiR l r) := hide (by
    rintro n hf hn r (⟨rfl, ho⟩ | ⟨o, rfl, ho⟩)
    · exact .noO n hn ho
    · exact .yes n o hn ho)
  have NO1 : Hid ((cut1 32 l).2.2 = true → (∀ v, parseIntB 64 (cut1 32 l).2.1 ≠ .ok v) → RiR l none) := hide (fun h1 h2 => .noN h1 h2)
  obtain ⟨nm, hnm⟩ : ∃ z, (cut1 32 l).1 = z := ⟨_, rfl⟩
  obtain ⟨nu, hnu⟩ : ∃ z, (cut1 32 l).2.1 = z := ⟨_, rfl⟩
  obtain ⟨has, hhas⟩ : ∃ z, (cut1 32 l).2.2 = z := ⟨_, rfl⟩
  rw [hnm, hnu, hhas] at REST
  rw [hnu, hhas] at NO1
  rw [hnm, hnu] at CL
  rw [hnm, hnu, hhas]
  have hnul : nu.length ≤ 1000000 := by have := CL.out.2.1; omega
  clear hnm hnu hhas
  cases has with
  | true =>
    by_cases hok : ∃ v, parseIntB 64 nu = .ok v
    · obtain ⟨v, hv⟩ := hok
      have PI := hide (pint_ok nu hnul v hv w2)
      have hf := atoi_fit (by rw [← Lib.parseIntB_64]; exact hv)
      have hff : Wit.Fit v := hf
      have RS := hide (REST.out v hff (.inl ⟨rfl, hv⟩))
      have HF := hide hf
      clear hv hf hff REST NO1
      go_wp2_with fail
      refine PI.out.mono ?_
      rintro e w3 ⟨rfl, hb3⟩
      have k3 := K2.out.below hb3 K2.out.lt
      have f1 := k3.frozen 1
      have K4 := hide (k3.set_ 1 (.int .i64 v))
      have HB4 := hide ((HB2.out.trans (hb3.mono HL2.out)).setCell (p := ⟨X, 1, none⟩) (Nat.le_refl _) (.int .i64 v))
      have HL4 := hide (show X ≤ (w3.setCell ⟨X, 1, none⟩ (.int .i64 v)).heap.size by have := Nat.le_trans HL2.out hb3.size; simpa [World.setCell] using this)
      have x1 : w3.cell? ⟨X, 1, none⟩ = some (.int .i64 0) := k3.cell 1
      obtain ⟨w4, hw4⟩ : ∃ z, w3.setCell ⟨X, 1, none⟩ (.int .i64 v) = z := ⟨_, rfl⟩
      rw [hw4] at K4 HB4 HL4
      clear hb3 k3 PI HB2 HL2 K2
      go_wp2_with fail
      go_loopw [9] (fun v9 wr => ∃ o : Nat, 1 ≤ o ∧ o ≤ 30 ∧ v9 = .int .u8 o ∧ w4 = wr ∧ Hid (opOf nm = opFrom nm (31 - o) o)) (fun v9 _ => 30 - (RowKit.intOf v9).toNat)
      case atStart => exact ⟨1, by omega, by omega, rfl, by first | rfl | trivial, hide rfl⟩
      case round =>
        obtain ⟨o, ho1, ho2, rfl, rfl, HF2⟩ := hrel
        have x0 : w4.cell? ⟨X, 0, none⟩ = some (.int .u8 0) := K4.out.cell 0
        have x1 : w4.cell? ⟨X, 1, none⟩ = some (.int .i64 v) := K4.out.cell 1
        have f0 := K4.out.frozen 0
        have f1 := K4.out.frozen 1
        by_cases hlt : o ≤ 29
        rotate_left
        · have ho : o = 30 := by omega
          have RN := hide (RS.out none (.inl ⟨rfl, by rw [HF2.out, ho]; exact opFrom_end _ _⟩))
          have g1 : ¬ (o : Int) ≤ 29 := by omega
          have k5 := (K4.out.set_ 0 (.int .u8 0)).set_ 1 (.int .i64 0)
          have HB5 := hide ((HB4.out.setCell (p := ⟨X, 0, none⟩) (Nat.le_refl _) (.int .u8 0)).setCell (p := ⟨X, 1, none⟩) (Nat.le_refl _) (.int .i64 0))
          obtain ⟨w5, hw5⟩ : ∃ z, (w4.setCell ⟨X, 0, none⟩ (.int .u8 0)).setCell ⟨X, 1, none⟩ (.int .i64 0) = z := ⟨_, rfl⟩
          rw [hw5] at k5 HB5
          have u0 : w5.cell? ⟨X, 0, none⟩ = some (.int .u8 0) := k5.cell 0
          have u1 : w5.cell? ⟨X, 1, none⟩ = some (.int .i64 0) := k5.cell 1
          clear k5 ho
          go_wp2_with fail
          exact bodyPost_ret (v := .tuple #[.agg #[.int .u8 0, .int .i64 0], .bool false]) (by simp [results, Tryd.results52, go_sem, u0, u1]) rfl ⟨⟨none, RN.out, .inl ⟨rfl, rfl⟩⟩, by rw [HX.out]; exact HB5.out⟩
        have g1 : (o : Int) ≤ 29 := by omega
        have s1 : IntKind.u8.wrap ((o : Int) + 1) = (o : Int) + 1 := by rw [IntKind.wrap_u8]; omega
        have NM := hide (Name_c o (by omega) w4 (HO.out.below HB4.out (by rw [HX.out]; exact Nat.le_refl _)))
        rw [nm_toList] at NM
        have EQ := bytes_eq (opO (o : Int)).nm.data.toList nm
        have STEP : Hid (opFrom nm (31 - o) o = if (opO (o : Int)).nm.data.toList = nm then some o else opFrom nm (30 - o) (o + 1)) := hide (by
          rw [show 31 - o = (30 - o) + 1 by omega, opFrom, if_pos hlt])
        generalize (opO (o : Int)).nm.data.toList = nl at *
        by_cases he : nl = nm
        · rw [decide_eq_true he] at EQ
          have RY := hide (RS.out _ (.inr ⟨o, rfl, by rw [HF2.out, STEP.out, if_pos he]⟩))
          have k5 := K4.out.set_ 0 (.int .u8 (o : Int))
          have k6 := (k5.set_ 0 (.int .u8 (o : Int))).set_ 1 (.int .i64 v)
          have hb5 := HB4.out.setCell (p := ⟨X, 0, none⟩) (Nat.le_refl _) (.int .u8 (o : Int))
          have hb6 := (hb5.setCell (p := ⟨X, 0, none⟩) (Nat.le_refl _) (.int .u8 (o : Int))).setCell (p := ⟨X, 1, none⟩) (Nat.le_refl _) (.int .i64 v)
          obtain ⟨w5, hw5⟩ : ∃ z, w4.setCell ⟨X, 0, none⟩ (.int .u8 (o : Int)) = z := ⟨_, rfl⟩
          rw [hw5] at k5 k6 hb6
          have y0 : w5.cell? ⟨X, 0, none⟩ = some (.int .u8 (o : Int)) := k5.cell 0
          have y1 : w5.cell? ⟨X, 1, none⟩ = some (.int .i64 v) := k5.cell 1
          have e0 := k5.frozen 0
          have e1 := k5.frozen 1
          obtain ⟨w6, hw6⟩ : ∃ z, (w5.setCell ⟨X, 0, none⟩ (.int .u8 (o : Int))).setCell ⟨X, 1, none⟩ (.int .i64 v) = z := ⟨_, rfl⟩
          rw [hw6] at k6 hb6
          have HB6 := hide hb6
          have u0 : w6.cell? ⟨X, 0, none⟩ = some (.int .u8 (o : Int)) := k6.cell 0
          have u1 : w6.cell? ⟨X, 1, none⟩ = some (.int .i64 v) := k6.cell 1
          have HOK := hide (show (⟨(o : Int), v⟩ : In).ok from ⟨by show (0 : Int) ≤ (o : Int); omega, by show (o : Int) ≤ 255; omega, HF.out.1, HF.out.2⟩)
          have H1 := hide (And.intro ho1 hlt)
          clear k5 k6 hb5 hb6 he STEP HF2
          go_wp2_with fail
          refine NM.out.mono ?_
          rintro e w7 ⟨rfl, rfl⟩
          go_wp2_with fail
          exact bodyPost_ret (v := .tuple #[.agg #[.int .u8 (o : Int), .int .i64 v], .bool true]) (by simp [results, Tryd.results52, go_sem, u0, u1]) rfl ⟨⟨_, RY.out, .inr ⟨_, rfl, HOK.out, by show (1 : Int) ≤ (o : Int); have := H1.out.1; omega, by show (o : Int) ≤ 29; have := H1.out.2; omega, rfl⟩⟩, by rw [HX.out]; exact HB6.out⟩
        · rw [decide_eq_false he] at EQ
          have HF3 := hide (HF2.out.trans (STEP.out.trans (if_neg he)))
          clear he STEP HF2
          go_wp2_with fail
          refine NM.out.mono ?_
          rintro e w7 ⟨rfl, rfl⟩
          go_wp2_with fail
          go_roundw
          case rel => exact ⟨o + 1, by omega, by omega, by simp, by first | rfl | trivial, hide (by rw [HF3.out, show 31 - (o + 1) = 30 - o by omega])⟩
          case measure => simp [RowKit.intOf] <;> omega
    · have hno : ∀ v, parseIntB 64 nu ≠ .ok v := fun v h => hok ⟨v, h⟩
      have PI := hide (pint_no nu hnul hno w2 (HE.out.below HB2.out (by rw [HX.out]; exact Nat.le_refl _)))
      have RN := hide (NO1.out rfl hno)
      clear hok hno REST NO1
      go_wp2_with fail
      refine PI.out.mono ?_
      rintro e w3 ⟨x, t, p, rfl, hb3⟩
      have k3 := K2.out.below hb3 K2.out.lt
      have f0 := k3.frozen 0
      have f1 := k3.frozen 1
      have k4 := (k3.set_ 0 (.int .u8 0)).set_ 1 (.int .i64 0)
      have hb4 := ((HB2.out.trans (hb3.mono HL2.out)).setCell (p := ⟨X, 0, none⟩) (Nat.le_refl _) (.int .u8 0)).setCell (p := ⟨X, 1, none⟩) (Nat.le_refl _) (.int .i64 0)
      have x0 : w3.cell? ⟨X, 0, none⟩ = some (.int .u8 0) := k3.cell 0
      have x1 : w3.cell? ⟨X, 1, none⟩ = some (.int .i64 0) := k3.cell 1
      obtain ⟨w4, hw4⟩ : ∃ z, (w3.setCell ⟨X, 0, none⟩ (.int .u8 0)).setCell ⟨X, 1, none⟩ (.int .i64 0) = z := ⟨_, rfl⟩
      rw [hw4] at k4 hb4
      have HB4 := hide hb4
      have u0 : w4.cell? ⟨X, 0, none⟩ = some (.int .u8 0) := k4.cell 0
      have u1 : w4.cell? ⟨X, 1, none⟩ = some (.int .i64 0) := k4.cell 1
      clear hb3 k3 PI HB2 HL2 K2 k4 hb4
      go_wp2_with fail
      exact bodyPost_ret (v := .tuple #[.agg #[.int .u8 0, .int .i64 0], .bool false]) (by simp [results, Tryd.results52, go_sem, u0, u1]) rfl ⟨⟨none, RN.out, .inl ⟨rfl, rfl⟩⟩, by rw [HX.out]; exact HB4.out⟩
  | false =>
    have RS := hide (REST.out 0 (by unfold Wit.Fit; omega) (.inr ⟨rfl, rfl⟩))
    have HF := hide (show -9223372036854775808 ≤ (0 : Int) ∧ (0 : Int) ≤ 9223372036854775807 by omega)
    clear REST NO1
    have K4 := K2
    have HB4 := HB2
    have HL4 := HL2
    obtain ⟨w4, hw4⟩ : ∃ z, w2 = z := ⟨_, rfl⟩
    rw [hw4] at K4 HB4 HL4 ⊢
    clear K2 HB2 HL2 hw4
    go_wp2_with fail
    go_loopw [9] (fun v9 wr => ∃ o : Nat, 1 ≤ o ∧ o ≤ 30 ∧ v9 = .int .u8 o ∧ w4 = wr ∧ Hid (opOf nm = opFrom nm (31 - o) o)) (fun v9 _ => 30 - (RowKit.intOf v9).toNat)
    case atStart => exact ⟨1, by omega, by omega, rfl, by first | rfl | trivial, hide rfl⟩
    case round =>
      obtain ⟨o, ho1, ho2, rfl, rfl, HF2⟩ := hrel
      have x0 : w4.cell? ⟨X, 0, none⟩ = some (.int .u8 0) := K4.out.cell 0
      have x1 : w4.cell? ⟨X, 1, none⟩ = some (.int .i64 0) := K4.out.cell 1
      have f0 := K4.out.frozen 0
      have f1 := K4.out.frozen 1
      by_cases hlt : o ≤ 29
      rotate_left
      · have ho : o = 30 := by omega
        have RN := hide (RS.out none (.inl ⟨rfl, by rw [HF2.out, ho]; exact opFrom_end _ _⟩))
        have g1 : ¬ (o : Int) ≤ 29 := by omega
        have k5 := (K4.out.set_ 0 (.int .u8 0)).set_ 1 (.int .i64 0)
        have HB5 := hide ((HB4.out.setCell (p := ⟨X, 0, none⟩) (Nat.le_refl _) (.int .u8 0)).setCell (p := ⟨X, 1, none⟩) (Nat.le_refl _) (.int .i64 0))
        obtain ⟨w5, hw5⟩ : ∃ z, (w4.setCell ⟨X, 0, none⟩ (.int .u8 0)).setCell ⟨X, 1, none⟩ (.int .i64 0) = z := ⟨_, rfl⟩
        rw [hw5] at k5 HB5
        have u0 : w5.cell? ⟨X, 0, none⟩ = some (.int .u8 0) := k5.cell 0
        have u1 : w5.cell? ⟨X, 1, none⟩ = some (.int .i64 0) := k5.cell 1
        clear k5 ho
        go_wp2_with fail
        exact bodyPost_ret (v := .tuple #[.agg #[.int .u8 0, .int .i64 0], .bool false]) (by simp [results, Tryd.results52, go_sem, u0, u1]) rfl ⟨⟨none, RN.out, .inl ⟨rfl, rfl⟩⟩, by rw [HX.out]; exact HB5.out⟩
      have g1 : (o : Int) ≤ 29 := by omega
      have s1 : IntKind.u8.wrap ((o : Int) + 1) = (o : Int) + 1 := by rw [IntKind.wrap_u8]; omega
      have NM := hide (Name_c o (by omega) w4 (HO.out.below HB4.out (by rw [HX.out]; exact Nat.le_refl _)))
      rw [nm_toList] at NM
      have EQ := bytes_eq (opO (o : Int)).nm.data.toList nm
      have STEP : Hid (opFrom nm (31 - o) o = if (opO (o : Int)).nm.data.toList = nm then some o else opFrom nm (30 - o) (o + 1)) := hide (by
        rw [show 31 - o = (30 - o) + 1 by omega, opFrom, if_pos hlt])
      generalize (opO (o : Int)).nm.data.toList = nl at *
      by_cases he : nl = nm
      · rw [decide_eq_true he] at EQ
        have RY := hide (RS.out _ (.inr ⟨o, rfl, by rw [HF2.out, STEP.out, if_pos he]⟩))
        have k5 := K4.out.set_ 0 (.int .u8 (o : Int))
        have k6 := (k5.set_ 0 (.int .u8 (o : Int))).set_ 1 (.int .i64 0)
        have hb5 := HB4.out.setCell (p := ⟨X, 0, none⟩) (Nat.le_refl _) (.int .u8 (o : Int))
        have hb6 := (hb5.setCell (p := ⟨X, 0, none⟩) (Nat.le_refl _) (.int .u8 (o : Int))).setCell (p := ⟨X, 1, none⟩) (Nat.le_refl _) (.int .i64 0)
        obtain ⟨w5, hw5⟩ : ∃ z, w4.setCell ⟨X, 0, none⟩ (.int .u8 (o : Int)) = z := ⟨_, rfl⟩
        rw [hw5] at k5 k6 hb6
        have y0 : w5.cell? ⟨X, 0, none⟩ = some (.int .u8 (o : Int)) := k5.cell 0
        have y1 : w5.cell? ⟨X, 1, none⟩ = some (.int .i64 0) := k5.cell 1
        have e0 := k5.frozen 0
        have e1 := k5.frozen 1
        obtain ⟨w6, hw6⟩ : ∃ z, (w5.setCell ⟨X, 0, none⟩ (.int .u8 (o : Int))).setCell ⟨X, 1, none⟩ (.int .i64 0) = z := ⟨_, rfl⟩
        rw [hw6] at k6 hb6
        have HB6 := hide hb6
        have u0 : w6.cell? ⟨X, 0, none⟩ = some (.int .u8 (o : Int)) := k6.cell 0
        have u1 : w6.cell? ⟨X, 1, none⟩ = some (.int .i64 0) := k6.cell 1
        have HOK := hide (show (⟨(o : Int), 0⟩ : In).ok from ⟨by show (0 : Int) ≤ (o : Int); omega, by show (o : Int) ≤ 255; omega, HF.out.1, HF.out.2⟩)
        have H1 := hide (And.intro ho1 hlt)
        clear k5 k6 hb5 hb6 he STEP HF2
        go_wp2_with fail
        refine NM.out.mono ?_
        rintro e w7 ⟨rfl, rfl⟩
        go_wp2_with fail
        exact bodyPost_ret (v := .tuple #[.agg #[.int .u8 (o : Int), .int .i64 0], .bool true]) (by simp [results, Tryd.results52, go_sem, u0, u1]) rfl ⟨⟨_, RY.out, .inr ⟨_, rfl, HOK.out, by show (1 : Int) ≤ (o : Int); have := H1.out.1; omega, by show (o : Int) ≤ 29; have := H1.out.2; omega, rfl⟩⟩, by rw [HX.out]; exact HB6.out⟩
      · rw [decide_eq_false he] at EQ
        have HF3 := hide (HF2.out.trans (STEP.out.trans (if_neg he)))
        clear he STEP HF2
        go_wp2_with fail
        refine NM.out.mono ?_
        rintro e w7 ⟨rfl, rfl⟩
        go_wp2_with fail
        go_roundw
        case rel => exact ⟨o + 1, by omega, by omega, by simp, by first | rfl | trivial, hide (by rw [HF3.out, show 31 - (o + 1) = 30 - o by omega])⟩
        case measure => simp [RowKit.intOf] <;> omega
end Cod
end Go.Proofs.YtegpimaakgledaaDoor
