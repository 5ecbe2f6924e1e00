/- A text read as a call: the program, the walk. -/
import Derived.Test.YthcoelkpiflfeaaDoorRows
import Derived.Test.YthcoelkpiflfeaaDoorCtF
namespace Go.Proofs.YthcoelkpiflfeaaDoor
open Go Go.RowKit Go.Lib Go.Proofs.YthcoelkpiflfeaaDoor.Grp
set_option linter.unusedVariables false
set_option linter.unusedSimpArgs false
namespace Cal
set_option maxRecDepth 100000 in
set_option maxHeartbeats 16000000 in
theorem read_c (s : List UInt8) (w : World) (h : Env w) (hs : s.length ≤ 10000) :
    Calls Tryd.prog 34 #[.string (bytes s)] w (ReadIs s w) := by
  have hb1 := (Below.refl w.heap.size w).alloc (Nat.le_refl _) (.cells #[.int .u8 0, .int .i64 0, .int .i64 0, .int .i64 0, .int .i64 0, .int .i64 0, .int .i64 0, .int .u8 0, .slice none 0 0, .int .i64 0, .int .i64 0] 24)
  have k1 := Blk.new w 24 #[.int .u8 0, .int .i64 0, .int .i64 0, .int .i64 0, .int .i64 0, .int .i64 0, .int .i64 0, .int .u8 0, .slice none 0 0, .int .i64 0, .int .i64 0]
  have HE := hide h
  go_enter Tryd.func34, Tryd.ntmps34
  go_upto_region 1 with (fail)
  obtain ⟨w1, hw1⟩ : ∃ z, w.alloc (.cells #[.int .u8 0, .int .i64 0, .int .i64 0, .int .i64 0, .int .i64 0, .int .i64 0, .int .i64 0, .int .u8 0, .slice none 0 0, .int .i64 0, .int .i64 0] 24) = z := ⟨_, rfl⟩
  rw [hw1] at hb1 k1 ⊢
  obtain ⟨X, hX⟩ : ∃ X, w.heap.size = X := ⟨_, rfl⟩
  rw [hX] at k1 hb1 ⊢
  have HX := hide hX
  have HEB := hide (fun (w' : World) (h : Below X w w') => HE.out.below h (by rw [hX]; exact Nat.le_refl _))
  have HB1 := hide (And.intro hb1 (show X ≤ w1.heap.size by have := k1.lt; omega))
  have K1 := hide k1
  have CU := hide (cut_c s w1 (HEB.out w1 hb1) (by omega))
  have HS := hide hs
  clear hb1 k1 hw1 hX h hs HE
  go_wp2_with fail
  refine CU.out.mono ?_
  rintro e w2 ⟨rfl, hb2⟩
  have HB2 := hide (And.intro (HB1.out.1.trans (hb2.mono HB1.out.2)) (Nat.le_trans HB1.out.2 hb2.size))
  have K2 := hide (K1.out.below hb2 K1.out.lt)
  clear hb2 HB1 K1 CU
  obtain ⟨kd, hkd⟩ : ∃ z, kP s = z := ⟨_, rfl⟩
  have HKD := hide hkd
  have CA := hide (fun w' => TreeCallsW.call_a (bytes (cut1 40 s).1) w')
  rw [show (bytes (cut1 40 s).1).toList = (cut1 40 s).1 by rw [ByteArray.toList_eq, bytes_data]] at CA
  have CA : Hid (∀ w', Calls Tryd.prog 52 #[.string (bytes (cut1 40 s).1)] w' fun e w'' => e = .returned (.int .u8 kd) ∧ w' = w'') := hide (by rw [← hkd]; exact CA.out)
  have CUL := cut1_len 40 s
  have ITD : Hid (itP s = itemsP (trimSuffix (cut1 40 s).2.1 [41])) := hide rfl
  obtain ⟨SW, hSW⟩ : ∃ z, bytes (cut1 40 s).1 = z := ⟨_, rfl⟩
  obtain ⟨RL, hRL⟩ : ∃ z, (cut1 40 s).2.1 = z := ⟨_, rfl⟩
  obtain ⟨bo, hbo⟩ : ∃ z, (cut1 40 s).2.2 = z := ⟨_, rfl⟩
  rw [hSW] at CA ⊢
  rw [hRL] at CUL ITD ⊢
  rw [hbo]
  have RLL : RL.length ≤ 10000 := by have := CUL.2; have := HS.out; omega
  clear hSW hRL hbo CUL hkd
  have TS := hide (fun w' => tsuf_c RL w' (by omega))
  have TSL := trimSuf_len RL [41]
  obtain ⟨TL, hTL⟩ : ∃ z, trimSuffix RL [41] = z := ⟨_, rfl⟩
  rw [hTL] at TS ITD TSL
  have SP := hide (fun w' (h : Env w') => split_c TL w' h (by omega))
  have IL := items_len TL
  have IM := hide (items_mem TL)
  obtain ⟨its, hits⟩ : ∃ z, itemsP TL = z := ⟨_, rfl⟩
  rw [hits] at SP ITD IL IM
  have HTL := hide (show TL.length ≤ 10000 by omega)
  have HIL := hide (show 1 ≤ its.length ∧ its.length ≤ 10001 by omega)
  clear hTL hits TSL IL RLL
  go_wp2_with fail
  refine (CA.out w2).mono ?_
  rintro e w' ⟨rfl, rfl⟩
  have z0 : w2.cell? ⟨X, 0, none⟩ = some (.int .u8 0) := K2.out.cell 0
  have f0 := K2.out.frozen 0
  have k3 : Blk (w2.setCell ⟨X, 0, none⟩ (.int .u8 kd)) X 24 #[.int .u8 kd, .int .i64 0, .int .i64 0, .int .i64 0, .int .i64 0, .int .i64 0, .int .i64 0, .int .u8 0, .slice none 0 0, .int .i64 0, .int .i64 0] := K2.out.set_ 0 (.int .u8 kd)
  have hb3 := HB2.out.1.setCell (p := ⟨X, 0, none⟩) (Nat.le_refl _) (.int .u8 kd)
  obtain ⟨w3, hw3⟩ : ∃ z, w2.setCell ⟨X, 0, none⟩ (.int .u8 kd) = z := ⟨_, rfl⟩
  rw [hw3] at k3 hb3
  have HB3 := hide (And.intro hb3 (show X ≤ w3.heap.size by have := k3.lt; omega))
  have K3 := hide k3
  clear k3 hb3 CA
  go_wp2_with fail
  refine (TS.out w3).mono ?_
  rintro e w' ⟨rfl, rfl⟩
  clear hw3 z0 f0
  go_wp2_with fail
  refine (SP.out w' (HEB.out w' HB3.out.1)).mono ?_
  rintro e w4 ⟨rfl, rfl⟩
  have ba4 := (Below.refl w'.heap.size w').alloc (Nat.le_refl _) (.cells (strC its).toArray 9)
  have kI := Blk.new w' 9 (strC its).toArray
  have k4 := K3.out.below ba4 K3.out.lt
  have hb4 := HB3.out.1.trans (ba4.mono HB3.out.2)
  obtain ⟨I, hI⟩ : ∃ I, w'.heap.size = I := ⟨_, rfl⟩
  have hXI : X < I := by rw [← hI]; exact K3.out.lt
  obtain ⟨w4, hw4⟩ : ∃ z, w'.alloc (.cells (strC its).toArray 9) = z := ⟨_, rfl⟩
  rw [hI] at kI
  rw [hw4] at kI k4 hb4 ⊢
  rw [hI]
  have K4 := hide k4
  have KI4 := hide kI
  have HB4 := hide (And.intro hb4 (show X ≤ w4.heap.size by have := k4.lt; omega))
  have HXI := hide hXI
  have c0 : w4.cell? ⟨X, 0, none⟩ = some (.int .u8 kd) := k4.cell 0
  have US := hide (used_c kd w4)
  clear ba4 kI k4 hb4 hI hw4 hXI SP TS HB3 K3 HB2 K2
  go_wp2_with fail
  refine US.out.mono ?_
  rintro e w5 ⟨v, rfl, hv, hb5⟩
  have HB5 := hide (And.intro (HB4.out.1.trans (hb5.mono HB4.out.2)) (Nat.le_trans HB4.out.2 hb5.size))
  have K5 := hide (K4.out.below hb5 K4.out.lt)
  have KI := hide (KI4.out.below hb5 KI4.out.lt)
  have X5 := hide K5.out.lt
  have X4 := hide K4.out.lt
  clear hb5 HB4 K4 KI4 US c0
  rcases hv with ⟨h0, rfl⟩ | ⟨g, hn, rfl, hge, hg⟩
  · have WHY : Hid (readP s = none) := hide (by unfold readP; rw [HKD.out, if_pos h0])
    have kz := K5.out
    have bz := HB5.out.1
    clear h0
    have z0 : w5.cell? ⟨X, 0, none⟩ = some (.int .u8 kd) := kz.cell 0
    have z1 : w5.cell? ⟨X, 1, none⟩ = some (.int .i64 0) := kz.cell 1
    have z2 : w5.cell? ⟨X, 2, none⟩ = some (.int .i64 0) := kz.cell 2
    have z3 : w5.cell? ⟨X, 3, none⟩ = some (.int .i64 0) := kz.cell 3
    have z4 : w5.cell? ⟨X, 4, none⟩ = some (.int .i64 0) := kz.cell 4
    have z5 : w5.cell? ⟨X, 5, none⟩ = some (.int .i64 0) := kz.cell 5
    have z6 : w5.cell? ⟨X, 6, none⟩ = some (.int .i64 0) := kz.cell 6
    have z7 : w5.cell? ⟨X, 7, none⟩ = some (.int .u8 0) := kz.cell 7
    have z8 : w5.cell? ⟨X, 8, none⟩ = some (.slice none 0 0) := kz.cell 8
    have z9 : w5.cell? ⟨X, 9, none⟩ = some (.int .i64 0) := kz.cell 9
    have z10 : w5.cell? ⟨X, 10, none⟩ = some (.int .i64 0) := kz.cell 10
    have f0 := kz.frozen 0
    have f1 := kz.frozen 1
    have f2 := kz.frozen 2
    have f3 := kz.frozen 3
    have f4 := kz.frozen 4
    have f5 := kz.frozen 5
    have f6 := kz.frozen 6
    have f7 := kz.frozen 7
    have f8 := kz.frozen 8
    have f9 := kz.frozen 9
    have f10 := kz.frozen 10
    have k9 := put11 kz (.int .u8 0) (.int .i64 0) (.int .i64 0) (.int .i64 0) (.int .i64 0) (.int .i64 0) (.int .i64 0) (.int .u8 0) (.slice none 0 0) (.int .i64 0) (.int .i64 0)
    have b9 := bel11 bz (.int .u8 0) (.int .i64 0) (.int .i64 0) (.int .i64 0) (.int .i64 0) (.int .i64 0) (.int .i64 0) (.int .u8 0) (.slice none 0 0) (.int .i64 0) (.int .i64 0)
    obtain ⟨w9, hw9⟩ : ∃ z, (((((((((((w5.setCell ⟨X, 0, none⟩ (.int .u8 0)).setCell ⟨X, 1, none⟩ (.int .i64 0)).setCell ⟨X, 2, none⟩ (.int .i64 0)).setCell ⟨X, 3, none⟩ (.int .i64 0)).setCell ⟨X, 4, none⟩ (.int .i64 0)).setCell ⟨X, 5, none⟩ (.int .i64 0)).setCell ⟨X, 6, none⟩ (.int .i64 0)).setCell ⟨X, 7, none⟩ (.int .u8 0)).setCell ⟨X, 8, none⟩ (.slice none 0 0)).setCell ⟨X, 9, none⟩ (.int .i64 0)).setCell ⟨X, 10, none⟩ (.int .i64 0)) = z := ⟨_, rfl⟩
    rw [hw9] at k9 b9
    have u0 : w9.cell? ⟨X, 0, none⟩ = some (.int .u8 0) := k9.cell 0
    have u1 : w9.cell? ⟨X, 1, none⟩ = some (.int .i64 0) := k9.cell 1
    have u2 : w9.cell? ⟨X, 2, none⟩ = some (.int .i64 0) := k9.cell 2
    have u3 : w9.cell? ⟨X, 3, none⟩ = some (.int .i64 0) := k9.cell 3
    have u4 : w9.cell? ⟨X, 4, none⟩ = some (.int .i64 0) := k9.cell 4
    have u5 : w9.cell? ⟨X, 5, none⟩ = some (.int .i64 0) := k9.cell 5
    have u6 : w9.cell? ⟨X, 6, none⟩ = some (.int .i64 0) := k9.cell 6
    have u7 : w9.cell? ⟨X, 7, none⟩ = some (.int .u8 0) := k9.cell 7
    have u8 : w9.cell? ⟨X, 8, none⟩ = some (.slice none 0 0) := k9.cell 8
    have u9 : w9.cell? ⟨X, 9, none⟩ = some (.int .i64 0) := k9.cell 9
    have u10 : w9.cell? ⟨X, 10, none⟩ = some (.int .i64 0) := k9.cell 10
    have HB9 := hide b9
    clear b9 k9
    go_wp2_with fail
    exact bodyPost_ret (v := .tuple #[.agg #[.int .u8 0, .int .i64 0, .int .i64 0, .int .i64 0, .int .i64 0, .int .i64 0, .int .i64 0, .int .u8 0, .slice none 0 0, .int .i64 0, .int .i64 0], .bool false]) (by simp [results, Tryd.results34, go_sem, u0, u1, u2, u3, u4, u5, u6, u7, u8, u9, u10]) rfl ⟨.inl ⟨WHY.out, rfl⟩, by rw [HX.out]; exact HB9.out⟩
  have HG := hide hg
  have HGX : Hid (g ≠ X) := hide (by have := X4.out; omega)
  have HNE : Hid (usedL kd ≠ []) := hide (fun e => by rw [e] at hn; simp at hn)
  have HU5 := hide (used_len kd)
  obtain ⟨n, hnn⟩ : ∃ n, (usedL kd).length = n := ⟨_, rfl⟩
  have HNN := hide hnn
  have hn1 : ((n : Int) == 0) = false := by
    have : ¬ (n : Int) = 0 := by rw [hnn] at hn; omega
    simpa using this
  have hnI : (0 : Int) < (n : Int) := by omega
  have HN0 := hide (show 0 < n by omega)
  obtain ⟨f0', hf0⟩ : ∃ z, (usedL kd).getD 0 0 = z := ⟨_, rfl⟩
  have c0 : w5.cell? ⟨g, 0, none⟩ = some (.int .i64 f0') := by rw [← hf0]; exact blk_i64 hg (by omega)
  have HF0 := hide hf0
  obtain ⟨m, hm⟩ : ∃ m, its.length = m := ⟨_, rfl⟩
  have HM := hide hm
  rw [hnn, hm]
  clear hg hn hnn hge hf0 hm
  by_cases h7 : f0' = 7
  · have h7b : (f0' == 7) = true := by simpa using h7
    have h7c : (f0' != 7) = false := by simp [h7]
    have F7 : Hid (usedL kd = [7]) := hide (by
      have h := HF0.out.trans h7
      have h0 := HNE.out
      rcases shapes kd with ⟨e, _⟩ | ⟨e, _⟩ | ⟨e, _⟩ | ⟨e, _⟩ | ⟨e, _⟩ | ⟨e, _⟩ | ⟨e, _⟩ | ⟨e, _⟩ | ⟨e, _⟩ <;> rw [e] at h h0 ⊢ <;> simp at h h0 ⊢)
    have RP : Hid (readP s = (rqF its m).map fun l => { zeroC with k := kd, rq := l }) := hide (by
      unfold readP
      rw [HKD.out, ITD.out, if_neg HNE.out, if_pos F7.out, HM.out])
    clear h7
    go_wp2_with fail
    clear c0
    go_loopw [46] (fun vi wr => ∃ (k : Nat) (l : List Int) (A1 : Option Addr) (cap : Nat), k ≤ m ∧ vi = .int .i64 k ∧ Hid (rqF its k = some l) ∧ Hid (Blk wr X 24 #[.int .u8 kd, .int .i64 0, .int .i64 0, .int .i64 0, .int .i64 0, .int .i64 0, .int .i64 0, .int .u8 0, .slice A1 l.length cap, .int .i64 0, .int .i64 0]) ∧ Hid (wr.ownsRow w5.heap.size 3 1 (.slice A1 l.length cap) l.length (i64s l)) ∧ Hid (Only [X] w5 wr) ∧ Hid (Below X w wr)) (fun vi _ => m - (RowKit.intOf vi).toNat)
    case atStart => exact ⟨0, [], none, 0, Nat.zero_le _, rfl, hide rfl, K5, hide ⟨rfl, .inl ⟨rfl, rfl⟩⟩, hide ⟨Nat.le_refl _, fun _ _ _ => rfl⟩, hide HB5.out.1⟩
    case round =>
      obtain ⟨k, l, A1, cap, hk, rfl, HRQ, HKB, HOW, HON, HBR⟩ := hrel
      have hmb : m ≤ 10001 := by have := HIL.out; have := HM.out; omega
      by_cases hlt : k < m
      rotate_left
      · have hltI : ¬ (k : Int) < (m : Int) := by omega
        obtain rfl : k = m := by omega
        have WHY : Hid (readP s = some { zeroC with k := kd, rq := l }) := hide (by rw [RP.out, HRQ.out]; rfl)
        have kz := HKB.out
        have bz := HBR.out
        have OWF := hide (fun (w' : World) (h : Only [X] wr w') => own_only HOW.out h (by intro x hx; rw [List.mem_singleton.1 hx]; exact X5.out))
        have OWX := X5
        have z0 : wr.cell? ⟨X, 0, none⟩ = some (.int .u8 kd) := kz.cell 0
        have z1 : wr.cell? ⟨X, 1, none⟩ = some (.int .i64 0) := kz.cell 1
        have z2 : wr.cell? ⟨X, 2, none⟩ = some (.int .i64 0) := kz.cell 2
        have z3 : wr.cell? ⟨X, 3, none⟩ = some (.int .i64 0) := kz.cell 3
        have z4 : wr.cell? ⟨X, 4, none⟩ = some (.int .i64 0) := kz.cell 4
        have z5 : wr.cell? ⟨X, 5, none⟩ = some (.int .i64 0) := kz.cell 5
        have z6 : wr.cell? ⟨X, 6, none⟩ = some (.int .i64 0) := kz.cell 6
        have z7 : wr.cell? ⟨X, 7, none⟩ = some (.int .u8 0) := kz.cell 7
        have z8 : wr.cell? ⟨X, 8, none⟩ = some (.slice A1 l.length cap) := kz.cell 8
        have z9 : wr.cell? ⟨X, 9, none⟩ = some (.int .i64 0) := kz.cell 9
        have z10 : wr.cell? ⟨X, 10, none⟩ = some (.int .i64 0) := kz.cell 10
        have f0 := kz.frozen 0
        have f1 := kz.frozen 1
        have f2 := kz.frozen 2
        have f3 := kz.frozen 3
        have f4 := kz.frozen 4
        have f5 := kz.frozen 5
        have f6 := kz.frozen 6
        have f7 := kz.frozen 7
        have f8 := kz.frozen 8
        have f9 := kz.frozen 9
        have f10 := kz.frozen 10
        have k9 := put11 kz (.int .u8 kd) (.int .i64 0) (.int .i64 0) (.int .i64 0) (.int .i64 0) (.int .i64 0) (.int .i64 0) (.int .u8 0) (.slice A1 l.length cap) (.int .i64 0) (.int .i64 0)
        have b9 := bel11 bz (.int .u8 kd) (.int .i64 0) (.int .i64 0) (.int .i64 0) (.int .i64 0) (.int .i64 0) (.int .i64 0) (.int .u8 0) (.slice A1 l.length cap) (.int .i64 0) (.int .i64 0)
        obtain ⟨w9, hw9⟩ : ∃ z, (((((((((((wr.setCell ⟨X, 0, none⟩ (.int .u8 kd)).setCell ⟨X, 1, none⟩ (.int .i64 0)).setCell ⟨X, 2, none⟩ (.int .i64 0)).setCell ⟨X, 3, none⟩ (.int .i64 0)).setCell ⟨X, 4, none⟩ (.int .i64 0)).setCell ⟨X, 5, none⟩ (.int .i64 0)).setCell ⟨X, 6, none⟩ (.int .i64 0)).setCell ⟨X, 7, none⟩ (.int .u8 0)).setCell ⟨X, 8, none⟩ (.slice A1 l.length cap)).setCell ⟨X, 9, none⟩ (.int .i64 0)).setCell ⟨X, 10, none⟩ (.int .i64 0)) = z := ⟨_, rfl⟩
        rw [hw9] at k9 b9
        have u0 : w9.cell? ⟨X, 0, none⟩ = some (.int .u8 kd) := k9.cell 0
        have u1 : w9.cell? ⟨X, 1, none⟩ = some (.int .i64 0) := k9.cell 1
        have u2 : w9.cell? ⟨X, 2, none⟩ = some (.int .i64 0) := k9.cell 2
        have u3 : w9.cell? ⟨X, 3, none⟩ = some (.int .i64 0) := k9.cell 3
        have u4 : w9.cell? ⟨X, 4, none⟩ = some (.int .i64 0) := k9.cell 4
        have u5 : w9.cell? ⟨X, 5, none⟩ = some (.int .i64 0) := k9.cell 5
        have u6 : w9.cell? ⟨X, 6, none⟩ = some (.int .i64 0) := k9.cell 6
        have u7 : w9.cell? ⟨X, 7, none⟩ = some (.int .u8 0) := k9.cell 7
        have u8 : w9.cell? ⟨X, 8, none⟩ = some (.slice A1 l.length cap) := k9.cell 8
        have u9 : w9.cell? ⟨X, 9, none⟩ = some (.int .i64 0) := k9.cell 9
        have u10 : w9.cell? ⟨X, 10, none⟩ = some (.int .i64 0) := k9.cell 10
        have HB9 := hide b9
        clear b9 k9
        have ONZ : Hid (Only [X] wr w9) := hide (by
          rw [← hw9]
          exact Only.trans (Only.trans (Only.trans (Only.trans (Only.trans (Only.trans (Only.trans (Only.trans (Only.trans (Only.trans (Only.set_ _ _ (List.mem_singleton.2 rfl)) (Only.set_ _ _ (List.mem_singleton.2 rfl))) (Only.set_ _ _ (List.mem_singleton.2 rfl))) (Only.set_ _ _ (List.mem_singleton.2 rfl))) (Only.set_ _ _ (List.mem_singleton.2 rfl))) (Only.set_ _ _ (List.mem_singleton.2 rfl))) (Only.set_ _ _ (List.mem_singleton.2 rfl))) (Only.set_ _ _ (List.mem_singleton.2 rfl))) (Only.set_ _ _ (List.mem_singleton.2 rfl))) (Only.set_ _ _ (List.mem_singleton.2 rfl))) (Only.set_ _ _ (List.mem_singleton.2 rfl)))
        have OWN : Hid (w9.ownsRow w.heap.size 3 1 (.slice A1 l.length cap) l.length (i64s l)) := hide (by
          have := OWF.out w9 ONZ.out
          rw [HX.out]
          refine ⟨this.1, this.2.imp id ?_⟩
          rintro ⟨g', cap', cur', e', hge', r'⟩
          exact ⟨g', cap', cur', e', Nat.le_trans HB5.out.2 hge', r'⟩)
        clear OWF
        go_wp2_with fail
        exact bodyPost_ret (v := .tuple #[.agg #[.int .u8 kd, .int .i64 0, .int .i64 0, .int .i64 0, .int .i64 0, .int .i64 0, .int .i64 0, .int .u8 0, .slice A1 l.length cap, .int .i64 0, .int .i64 0], .bool true]) (by simp [results, Tryd.results34, go_sem, u0, u1, u2, u3, u4, u5, u6, u7, u8, u9, u10]) rfl ⟨.inr ⟨{ zeroC with k := kd, rq := l }, A1, cap, WHY.out, rfl, OWN.out⟩, by rw [HX.out]; exact HB9.out⟩
      · have hltI : (k : Int) < (m : Int) := by omega
        have KIR := hide (blk_only KI.out HON.out (by intro h; rw [List.mem_singleton] at h; have := HXI.out; omega))
        have KGR := hide (blk_only HG.out HON.out (by intro h; rw [List.mem_singleton] at h; exact HGX.out h))
        have it0 : wr.cell? ⟨I, k, none⟩ = some (.string (bytes (its.getD k []))) := blk_str KIR.out (by have := HM.out; omega)
        have c0 : wr.cell? ⟨g, 0, none⟩ = some (.int .i64 f0') := by rw [← HF0.out]; exact blk_i64 KGR.out (by have := HNN.out; have := HN0.out; omega)
        have hln : l.length = k := (rqF_fit its k l HRQ.out).2
        have HLN := hide hln
        have ITM := hide (IM.out k)
        have RY := hide (fun n => rqF_yes (n := n) HRQ.out)
        have RN := hide (rqF_no HRQ.out)
        obtain ⟨it, hit⟩ : ∃ z, its.getD k [] = z := ⟨_, rfl⟩
        rw [hit] at it0 ITM RY RN
        have itl : it.length ≤ 1000000 := by have := ITM.out; have := HTL.out; omega
        clear hit hln
        by_cases hp : ∃ n, parseIntB 64 it = .ok n
        · obtain ⟨x, hx⟩ := hp
          have PO := hide (pint_ok it itl x hx wr)
          have RQN := hide (RY.out x hx)
          obtain ⟨IB, hIB⟩ : ∃ z, bytes it = z := ⟨_, rfl⟩
          rw [hIB] at it0 PO
          clear hx hIB itl
          go_wp2_with fail
          refine PO.out.mono ?_
          rintro e w6 ⟨rfl, hb6⟩
          have K6 := hide (HKB.out.below hb6 HKB.out.lt)
          have KG6 := hide (KGR.out.below hb6 KGR.out.lt)
          have c06 : w6.cell? ⟨g, 0, none⟩ = some (.int .i64 f0') := by rw [← HF0.out]; exact blk_i64 KG6.out (by have := HNN.out; have := HN0.out; omega)
          have c8 : w6.cell? ⟨X, 8, none⟩ = some (.slice A1 l.length cap) := K6.out.cell 8
          have ON6 := hide (HON.out.trans (Only.of_below hb6))
          have B6 := hide (HBR.out.trans (hb6.mono (by have := HKB.out.lt; omega)))
          obtain ⟨A2, c2, w7, hrun, hown, hb7⟩ := push_i w6 w5.heap.size A1 cap l.length l x rfl (own_belowR HOW.out hb6) (Nat.le_trans HON.out.1 hb6.size) (by have := HLN.out; omega)
          have X5' := X5.out
          have k7 := K6.out.below hb7 X5'
          have f8 := k7.frozen 8
          have c87 : w7.cell? ⟨X, 8, none⟩ = some (.slice A1 l.length cap) := k7.cell 8
          have k8 : Blk (w7.setCell ⟨X, 8, none⟩ (.slice A2 (l ++ [x]).length c2)) X 24 #[.int .u8 kd, .int .i64 0, .int .i64 0, .int .i64 0, .int .i64 0, .int .i64 0, .int .i64 0, .int .u8 0, .slice A2 (l ++ [x]).length c2, .int .i64 0, .int .i64 0] := k7.set_ 8 (.slice A2 (l ++ [x]).length c2)
          have b8 := (B6.out.trans (hb7.mono (Nat.le_of_lt X5'))).setCell (p := ⟨X, 8, none⟩) (Nat.le_refl _) (.slice A2 (l ++ [x]).length c2)
          have o8 := own_only hown (Only.set_ (S := [X]) w7 (p := ⟨X, 8, none⟩) (.slice A2 (l ++ [x]).length c2) (List.mem_singleton.2 rfl)) (by intro y hy; rw [List.mem_singleton.1 hy]; exact X5')
          have n8 : Only [X] w5 (w7.setCell ⟨X, 8, none⟩ (.slice A2 (l ++ [x]).length c2)) := ⟨Nat.le_trans ON6.out.1 (Nat.le_trans hb7.size (by simp [World.setCell])), fun j hj hn => ((Only.set_ (S := [X]) w7 (p := ⟨X, 8, none⟩) (.slice A2 (l ++ [x]).length c2) (List.mem_singleton.2 rfl)).2 j (Nat.lt_of_lt_of_le hj (Nat.le_trans ON6.out.1 hb7.size)) hn).trans ((hb7.block j hj).trans (ON6.out.2 j hj hn))⟩
          have LL : (l ++ [x]).length = l.length + 1 := by simp
          rw [LL] at k8 b8 o8 n8
          have K8 := hide k8
          have B8 := hide b8
          have O8 := hide o8
          have N8 := hide n8
          have RUN := hide hrun
          have HLL := hide LL
          clear k8 b8 o8 n8 LL hrun hown hb7 k7 hb6 X5'
          go_wp2_with (at_builtin; refine Lib.wpList_append_run _ rfl _ _ 22 22 rfl _ _ rfl rfl _ _ RUN.out ?_)
          go_roundw
          case rel => exact ⟨k + 1, l ++ [x], A2, c2, by omega, by go_num, RQN, by rw [HLL.out]; exact K8, by rw [HLL.out]; exact O8, N8, B8⟩
          case measure => simp [RowKit.intOf] <;> omega
        · have hp2 : ∀ n, parseIntB 64 it ≠ .ok n := fun n e => hp ⟨n, e⟩
          have PN := hide (pint_no it itl hp2 wr (HEB.out wr HBR.out))
          have WHY : Hid (readP s = none) := hide (by rw [RP.out, rqF_none its (RN.out hp2) m (by omega)]; rfl)
          obtain ⟨IB, hIB⟩ : ∃ z, bytes it = z := ⟨_, rfl⟩
          rw [hIB] at it0 PN
          clear hp hp2 hIB itl
          go_wp2_with fail
          refine PN.out.mono ?_
          rintro e w6 ⟨x, te, pe, rfl, hb6⟩
          have kz := HKB.out.below hb6 HKB.out.lt
          have bz := HBR.out.trans (hb6.mono (by have := HKB.out.lt; omega))
          clear hb6
          have z0 : w6.cell? ⟨X, 0, none⟩ = some (.int .u8 kd) := kz.cell 0
          have z1 : w6.cell? ⟨X, 1, none⟩ = some (.int .i64 0) := kz.cell 1
          have z2 : w6.cell? ⟨X, 2, none⟩ = some (.int .i64 0) := kz.cell 2
          have z3 : w6.cell? ⟨X, 3, none⟩ = some (.int .i64 0) := kz.cell 3
          have z4 : w6.cell? ⟨X, 4, none⟩ = some (.int .i64 0) := kz.cell 4
          have z5 : w6.cell? ⟨X, 5, none⟩ = some (.int .i64 0) := kz.cell 5
          have z6 : w6.cell? ⟨X, 6, none⟩ = some (.int .i64 0) := kz.cell 6
          have z7 : w6.cell? ⟨X, 7, none⟩ = some (.int .u8 0) := kz.cell 7
          have z8 : w6.cell? ⟨X, 8, none⟩ = some (.slice A1 l.length cap) := kz.cell 8
          have z9 : w6.cell? ⟨X, 9, none⟩ = some (.int .i64 0) := kz.cell 9
          have z10 : w6.cell? ⟨X, 10, none⟩ = some (.int .i64 0) := kz.cell 10
          have f0 := kz.frozen 0
          have f1 := kz.frozen 1
          have f2 := kz.frozen 2
          have f3 := kz.frozen 3
          have f4 := kz.frozen 4
          have f5 := kz.frozen 5
          have f6 := kz.frozen 6
          have f7 := kz.frozen 7
          have f8 := kz.frozen 8
          have f9 := kz.frozen 9
          have f10 := kz.frozen 10
          have k9 := put11 kz (.int .u8 0) (.int .i64 0) (.int .i64 0) (.int .i64 0) (.int .i64 0) (.int .i64 0) (.int .i64 0) (.int .u8 0) (.slice none 0 0) (.int .i64 0) (.int .i64 0)
          have b9 := bel11 bz (.int .u8 0) (.int .i64 0) (.int .i64 0) (.int .i64 0) (.int .i64 0) (.int .i64 0) (.int .i64 0) (.int .u8 0) (.slice none 0 0) (.int .i64 0) (.int .i64 0)
          obtain ⟨w9, hw9⟩ : ∃ z, (((((((((((w6.setCell ⟨X, 0, none⟩ (.int .u8 0)).setCell ⟨X, 1, none⟩ (.int .i64 0)).setCell ⟨X, 2, none⟩ (.int .i64 0)).setCell ⟨X, 3, none⟩ (.int .i64 0)).setCell ⟨X, 4, none⟩ (.int .i64 0)).setCell ⟨X, 5, none⟩ (.int .i64 0)).setCell ⟨X, 6, none⟩ (.int .i64 0)).setCell ⟨X, 7, none⟩ (.int .u8 0)).setCell ⟨X, 8, none⟩ (.slice none 0 0)).setCell ⟨X, 9, none⟩ (.int .i64 0)).setCell ⟨X, 10, none⟩ (.int .i64 0)) = z := ⟨_, rfl⟩
          rw [hw9] at k9 b9
          have u0 : w9.cell? ⟨X, 0, none⟩ = some (.int .u8 0) := k9.cell 0
          have u1 : w9.cell? ⟨X, 1, none⟩ = some (.int .i64 0) := k9.cell 1
          have u2 : w9.cell? ⟨X, 2, none⟩ = some (.int .i64 0) := k9.cell 2
          have u3 : w9.cell? ⟨X, 3, none⟩ = some (.int .i64 0) := k9.cell 3
          have u4 : w9.cell? ⟨X, 4, none⟩ = some (.int .i64 0) := k9.cell 4
          have u5 : w9.cell? ⟨X, 5, none⟩ = some (.int .i64 0) := k9.cell 5
          have u6 : w9.cell? ⟨X, 6, none⟩ = some (.int .i64 0) := k9.cell 6
          have u7 : w9.cell? ⟨X, 7, none⟩ = some (.int .u8 0) := k9.cell 7
          have u8 : w9.cell? ⟨X, 8, none⟩ = some (.slice none 0 0) := k9.cell 8
          have u9 : w9.cell? ⟨X, 9, none⟩ = some (.int .i64 0) := k9.cell 9
          have u10 : w9.cell? ⟨X, 10, none⟩ = some (.int .i64 0) := k9.cell 10
          have HB9 := hide b9
          clear b9 k9
          go_wp2_with fail
          exact bodyPost_ret (v := .tuple #[.agg #[.int .u8 0, .int .i64 0, .int .i64 0, .int .i64 0, .int .i64 0, .int .i64 0, .int .i64 0, .int .u8 0, .slice none 0 0, .int .i64 0, .int .i64 0], .bool false]) (by simp [results, Tryd.results34, go_sem, u0, u1, u2, u3, u4, u5, u6, u7, u8, u9, u10]) rfl ⟨.inl ⟨WHY.out, rfl⟩, by rw [HX.out]; exact HB9.out⟩
  · have h7b : (f0' == 7) = false := by simpa using h7
    have h7c : (f0' != 7) = true := by simp [h7]
    have S7 := hide (first_other (c := { zeroC with k := kd }) HNE.out (fun e => h7 (HF0.out.symm.trans e)))
    have N7 : Hid (¬ usedL kd = [7]) := hide (fun e => h7 (by have := HF0.out; rw [e] at this; exact this.symm))
    clear h7
    by_cases hmn : m = n
    rotate_left
    · have hmb : ((m : Int) != (n : Int)) = true := by
        have : ¬ (m : Int) = (n : Int) := by omega
        simpa using this
      have WHY : Hid (readP s = none) := hide (by
        unfold readP
        rw [HKD.out, ITD.out, if_neg HNE.out, if_neg N7.out, if_pos (by rw [HM.out, HNN.out]; exact hmn)])
      have kz := K5.out
      have bz := HB5.out.1
      clear hmn
      have z0 : w5.cell? ⟨X, 0, none⟩ = some (.int .u8 kd) := kz.cell 0
      have z1 : w5.cell? ⟨X, 1, none⟩ = some (.int .i64 0) := kz.cell 1
      have z2 : w5.cell? ⟨X, 2, none⟩ = some (.int .i64 0) := kz.cell 2
      have z3 : w5.cell? ⟨X, 3, none⟩ = some (.int .i64 0) := kz.cell 3
      have z4 : w5.cell? ⟨X, 4, none⟩ = some (.int .i64 0) := kz.cell 4
      have z5 : w5.cell? ⟨X, 5, none⟩ = some (.int .i64 0) := kz.cell 5
      have z6 : w5.cell? ⟨X, 6, none⟩ = some (.int .i64 0) := kz.cell 6
      have z7 : w5.cell? ⟨X, 7, none⟩ = some (.int .u8 0) := kz.cell 7
      have z8 : w5.cell? ⟨X, 8, none⟩ = some (.slice none 0 0) := kz.cell 8
      have z9 : w5.cell? ⟨X, 9, none⟩ = some (.int .i64 0) := kz.cell 9
      have z10 : w5.cell? ⟨X, 10, none⟩ = some (.int .i64 0) := kz.cell 10
      have f0 := kz.frozen 0
      have f1 := kz.frozen 1
      have f2 := kz.frozen 2
      have f3 := kz.frozen 3
      have f4 := kz.frozen 4
      have f5 := kz.frozen 5
      have f6 := kz.frozen 6
      have f7 := kz.frozen 7
      have f8 := kz.frozen 8
      have f9 := kz.frozen 9
      have f10 := kz.frozen 10
      have k9 := put11 kz (.int .u8 0) (.int .i64 0) (.int .i64 0) (.int .i64 0) (.int .i64 0) (.int .i64 0) (.int .i64 0) (.int .u8 0) (.slice none 0 0) (.int .i64 0) (.int .i64 0)
      have b9 := bel11 bz (.int .u8 0) (.int .i64 0) (.int .i64 0) (.int .i64 0) (.int .i64 0) (.int .i64 0) (.int .i64 0) (.int .u8 0) (.slice none 0 0) (.int .i64 0) (.int .i64 0)
      obtain ⟨w9, hw9⟩ : ∃ z, (((((((((((w5.setCell ⟨X, 0, none⟩ (.int .u8 0)).setCell ⟨X, 1, none⟩ (.int .i64 0)).setCell ⟨X, 2, none⟩ (.int .i64 0)).setCell ⟨X, 3, none⟩ (.int .i64 0)).setCell ⟨X, 4, none⟩ (.int .i64 0)).setCell ⟨X, 5, none⟩ (.int .i64 0)).setCell ⟨X, 6, none⟩ (.int .i64 0)).setCell ⟨X, 7, none⟩ (.int .u8 0)).setCell ⟨X, 8, none⟩ (.slice none 0 0)).setCell ⟨X, 9, none⟩ (.int .i64 0)).setCell ⟨X, 10, none⟩ (.int .i64 0)) = z := ⟨_, rfl⟩
      rw [hw9] at k9 b9
      have u0 : w9.cell? ⟨X, 0, none⟩ = some (.int .u8 0) := k9.cell 0
      have u1 : w9.cell? ⟨X, 1, none⟩ = some (.int .i64 0) := k9.cell 1
      have u2 : w9.cell? ⟨X, 2, none⟩ = some (.int .i64 0) := k9.cell 2
      have u3 : w9.cell? ⟨X, 3, none⟩ = some (.int .i64 0) := k9.cell 3
      have u4 : w9.cell? ⟨X, 4, none⟩ = some (.int .i64 0) := k9.cell 4
      have u5 : w9.cell? ⟨X, 5, none⟩ = some (.int .i64 0) := k9.cell 5
      have u6 : w9.cell? ⟨X, 6, none⟩ = some (.int .i64 0) := k9.cell 6
      have u7 : w9.cell? ⟨X, 7, none⟩ = some (.int .u8 0) := k9.cell 7
      have u8 : w9.cell? ⟨X, 8, none⟩ = some (.slice none 0 0) := k9.cell 8
      have u9 : w9.cell? ⟨X, 9, none⟩ = some (.int .i64 0) := k9.cell 9
      have u10 : w9.cell? ⟨X, 10, none⟩ = some (.int .i64 0) := k9.cell 10
      have HB9 := hide b9
      clear b9 k9
      go_wp2_with fail
      exact bodyPost_ret (v := .tuple #[.agg #[.int .u8 0, .int .i64 0, .int .i64 0, .int .i64 0, .int .i64 0, .int .i64 0, .int .i64 0, .int .u8 0, .slice none 0 0, .int .i64 0, .int .i64 0], .bool false]) (by simp [results, Tryd.results34, go_sem, u0, u1, u2, u3, u4, u5, u6, u7, u8, u9, u10]) rfl ⟨.inl ⟨WHY.out, rfl⟩, by rw [HX.out]; exact HB9.out⟩
    · have hmb : ((m : Int) != (n : Int)) = false := by rw [hmn]; simp
      have RP : Hid (readP s = rdF kd its m) := hide (by
        unfold readP
        rw [HKD.out, ITD.out, if_neg HNE.out, if_neg N7.out, if_neg (by rw [HM.out, HNN.out]; exact fun h => h hmn), HM.out])
      have HMN := hide hmn
      clear hmn
      go_wp2_with fail
      clear c0
      go_loopw [46] (fun vi wr => ∃ (k : Nat) (c : Cl), k ≤ m ∧ vi = .int .i64 k ∧ Hid (rdF kd its k = some c) ∧ Hid (c.rq = []) ∧ Hid (Blk wr X 24 #[.int .u8 c.k, .int .i64 c.co, .int .i64 c.pe, .int .i64 c.tg, .int .i64 c.va, .int .i64 c.sz, .int .i64 c.ro, .int .u8 c.op, .slice none 0 0, .int .i64 c.cl, .int .i64 c.ky]) ∧ Hid (Only [X] w5 wr) ∧ Hid (Below X w wr)) (fun vi _ => m - (RowKit.intOf vi).toNat)
      case atStart => exact ⟨0, { zeroC with k := kd }, Nat.zero_le _, rfl, hide rfl, hide rfl, K5, hide ⟨Nat.le_refl _, fun _ _ _ => rfl⟩, hide HB5.out.1⟩
      case round =>
        obtain ⟨k, c, hk, rfl, HRD, HCR, HKB, HON, HBR⟩ := hrel
        have hmb2 : m ≤ 10001 := by have := HIL.out; have := HM.out; omega
        by_cases hlt : k < m
        rotate_left
        · have hltI : ¬ (k : Int) < (m : Int) := by omega
          obtain rfl : k = m := by omega
          have WHY : Hid (readP s = some c) := hide (by rw [RP.out, HRD.out])
          have kz := HKB.out
          have bz := HBR.out
          have z0 : wr.cell? ⟨X, 0, none⟩ = some (.int .u8 c.k) := kz.cell 0
          have z1 : wr.cell? ⟨X, 1, none⟩ = some (.int .i64 c.co) := kz.cell 1
          have z2 : wr.cell? ⟨X, 2, none⟩ = some (.int .i64 c.pe) := kz.cell 2
          have z3 : wr.cell? ⟨X, 3, none⟩ = some (.int .i64 c.tg) := kz.cell 3
          have z4 : wr.cell? ⟨X, 4, none⟩ = some (.int .i64 c.va) := kz.cell 4
          have z5 : wr.cell? ⟨X, 5, none⟩ = some (.int .i64 c.sz) := kz.cell 5
          have z6 : wr.cell? ⟨X, 6, none⟩ = some (.int .i64 c.ro) := kz.cell 6
          have z7 : wr.cell? ⟨X, 7, none⟩ = some (.int .u8 c.op) := kz.cell 7
          have z8 : wr.cell? ⟨X, 8, none⟩ = some (.slice none 0 0) := kz.cell 8
          have z9 : wr.cell? ⟨X, 9, none⟩ = some (.int .i64 c.cl) := kz.cell 9
          have z10 : wr.cell? ⟨X, 10, none⟩ = some (.int .i64 c.ky) := kz.cell 10
          have f0 := kz.frozen 0
          have f1 := kz.frozen 1
          have f2 := kz.frozen 2
          have f3 := kz.frozen 3
          have f4 := kz.frozen 4
          have f5 := kz.frozen 5
          have f6 := kz.frozen 6
          have f7 := kz.frozen 7
          have f8 := kz.frozen 8
          have f9 := kz.frozen 9
          have f10 := kz.frozen 10
          have k9 := put11 kz (.int .u8 c.k) (.int .i64 c.co) (.int .i64 c.pe) (.int .i64 c.tg) (.int .i64 c.va) (.int .i64 c.sz) (.int .i64 c.ro) (.int .u8 c.op) (.slice none 0 0) (.int .i64 c.cl) (.int .i64 c.ky)
          have b9 := bel11 bz (.int .u8 c.k) (.int .i64 c.co) (.int .i64 c.pe) (.int .i64 c.tg) (.int .i64 c.va) (.int .i64 c.sz) (.int .i64 c.ro) (.int .u8 c.op) (.slice none 0 0) (.int .i64 c.cl) (.int .i64 c.ky)
          obtain ⟨w9, hw9⟩ : ∃ z, (((((((((((wr.setCell ⟨X, 0, none⟩ (.int .u8 c.k)).setCell ⟨X, 1, none⟩ (.int .i64 c.co)).setCell ⟨X, 2, none⟩ (.int .i64 c.pe)).setCell ⟨X, 3, none⟩ (.int .i64 c.tg)).setCell ⟨X, 4, none⟩ (.int .i64 c.va)).setCell ⟨X, 5, none⟩ (.int .i64 c.sz)).setCell ⟨X, 6, none⟩ (.int .i64 c.ro)).setCell ⟨X, 7, none⟩ (.int .u8 c.op)).setCell ⟨X, 8, none⟩ (.slice none 0 0)).setCell ⟨X, 9, none⟩ (.int .i64 c.cl)).setCell ⟨X, 10, none⟩ (.int .i64 c.ky)) = z := ⟨_, rfl⟩
          rw [hw9] at k9 b9
          have u0 : w9.cell? ⟨X, 0, none⟩ = some (.int .u8 c.k) := k9.cell 0
          have u1 : w9.cell? ⟨X, 1, none⟩ = some (.int .i64 c.co) := k9.cell 1
          have u2 : w9.cell? ⟨X, 2, none⟩ = some (.int .i64 c.pe) := k9.cell 2
          have u3 : w9.cell? ⟨X, 3, none⟩ = some (.int .i64 c.tg) := k9.cell 3
          have u4 : w9.cell? ⟨X, 4, none⟩ = some (.int .i64 c.va) := k9.cell 4
          have u5 : w9.cell? ⟨X, 5, none⟩ = some (.int .i64 c.sz) := k9.cell 5
          have u6 : w9.cell? ⟨X, 6, none⟩ = some (.int .i64 c.ro) := k9.cell 6
          have u7 : w9.cell? ⟨X, 7, none⟩ = some (.int .u8 c.op) := k9.cell 7
          have u8 : w9.cell? ⟨X, 8, none⟩ = some (.slice none 0 0) := k9.cell 8
          have u9 : w9.cell? ⟨X, 9, none⟩ = some (.int .i64 c.cl) := k9.cell 9
          have u10 : w9.cell? ⟨X, 10, none⟩ = some (.int .i64 c.ky) := k9.cell 10
          have HB9 := hide b9
          clear b9 k9
          go_wp2_with fail
          exact bodyPost_ret (v := .tuple #[.agg #[.int .u8 c.k, .int .i64 c.co, .int .i64 c.pe, .int .i64 c.tg, .int .i64 c.va, .int .i64 c.sz, .int .i64 c.ro, .int .u8 c.op, .slice none 0 0, .int .i64 c.cl, .int .i64 c.ky], .bool true]) (by simp [results, Tryd.results34, go_sem, u0, u1, u2, u3, u4, u5, u6, u7, u8, u9, u10]) rfl ⟨.inr ⟨c, none, 0, WHY.out, by unfold Cl.A clA; rw [HCR.out]; rfl, by rw [HCR.out]; exact ⟨rfl, .inl ⟨rfl, rfl⟩⟩⟩, by rw [HX.out]; exact HB9.out⟩
        · have hltI : (k : Int) < (m : Int) := by omega
          have hknI : (k : Int) < (n : Int) := by have := HMN.out; omega
          have KIR := hide (blk_only KI.out HON.out (by intro h; rw [List.mem_singleton] at h; have := HXI.out; omega))
          have KGR := hide (blk_only HG.out HON.out (by intro h; rw [List.mem_singleton] at h; exact HGX.out h))
          have it0 : wr.cell? ⟨I, k, none⟩ = some (.string (bytes (its.getD k []))) := blk_str KIR.out (by have := HM.out; omega)
          have c0 : wr.cell? ⟨g, 0, none⟩ = some (.int .i64 f0') := by rw [← HF0.out]; exact blk_i64 KGR.out (by have := HNN.out; have := HN0.out; omega)
          have hkl : k < (usedL kd).length := by have := HNN.out; have := HMN.out; omega
          have ck : wr.cell? ⟨g, k, none⟩ = some (.int .i64 ((usedL kd).getD k 0)) := blk_i64 KGR.out hkl
          have FM : Hid (plainF ((usedL kd).getD k 0)) := hide (S7.out.2 _ (by rw [List.getD, List.getElem?_eq_getElem hkl]; exact List.getElem_mem _))
          have NX := hide (rdF_next HRD.out)
          have ITM := hide (IM.out k)
          obtain ⟨it, hit⟩ : ∃ z, its.getD k [] = z := ⟨_, rfl⟩
          rw [hit] at it0 ITM NX
          obtain ⟨f, hf⟩ : ∃ z, (usedL kd).getD k 0 = z := ⟨_, rfl⟩
          rw [hf] at ck FM NX
          have itl : it.length ≤ 1000000 := by have := ITM.out; have := HTL.out; omega
          clear hit hf hkl
          by_cases h6 : f = 6
          · have h6b : (f == 6) = true := by simpa using h6
            have RC := hide (reduction_c it wr (HEB.out wr HBR.out).red)
            have NX2 : Hid (rdF kd its (k + 1) = some { c with op := redOf it }) := hide (by rw [NX.out, h6, rdS_op])
            obtain ⟨ro, hro⟩ : ∃ z, redOf it = z := ⟨_, rfl⟩
            rw [hro] at RC NX2
            obtain ⟨IB, hIB⟩ : ∃ z, bytes it = z := ⟨_, rfl⟩
            rw [hIB] at it0 RC
            have z7 : wr.cell? ⟨X, 7, none⟩ = some (.int .u8 c.op) := HKB.out.cell 7
            have f7 := HKB.out.frozen 7
            have K8 : Hid (Blk (wr.setCell ⟨X, 7, none⟩ (.int .u8 ro)) X 24 #[.int .u8 c.k, .int .i64 c.co, .int .i64 c.pe, .int .i64 c.tg, .int .i64 c.va, .int .i64 c.sz, .int .i64 c.ro, .int .u8 ro, .slice none 0 0, .int .i64 c.cl, .int .i64 c.ky]) := hide (HKB.out.set_ 7 (.int .u8 ro))
            have B8 := hide (HBR.out.setCell (p := ⟨X, 7, none⟩) (Nat.le_refl _) (.int .u8 ro))
            have N8 := hide (HON.out.trans (Only.set_ (S := [X]) wr (p := ⟨X, 7, none⟩) (.int .u8 ro) (List.mem_singleton.2 rfl)))
            have HH := hide h6
            clear h6 hro hIB
            go_wp2_with fail
            refine RC.out.mono ?_
            rintro e w' ⟨rfl, rfl⟩
            go_wp2_with fail
            go_roundw
            case rel => exact ⟨k + 1, { c with op := ro }, by omega, by go_num, NX2, HCR, K8, N8, B8⟩
            case measure => simp [RowKit.intOf] <;> omega
          · have h6b : (f == 6) = false := by simpa using h6
            by_cases hp : ∃ n, parseIntB 64 it = .ok n
            · obtain ⟨x, hx⟩ := hp
              have PO := hide (pint_ok it itl x hx wr)
              have NX2 : Hid (rdF kd its (k + 1) = some (setFld c f x)) := hide (by rw [NX.out, rdS_num h6 hx])
              have HH6 := hide h6
              obtain ⟨IB, hIB⟩ : ∃ z, bytes it = z := ⟨_, rfl⟩
              rw [hIB] at it0 PO
              clear hx hIB itl h6
              go_wp2_with fail
              refine PO.out.mono ?_
              rintro e w6 ⟨rfl, hb6⟩
              have K6 := HKB.out.below hb6 HKB.out.lt
              have KG6 := KGR.out.below hb6 KGR.out.lt
              have c06 : w6.cell? ⟨g, 0, none⟩ = some (.int .i64 f0') := by rw [← HF0.out]; exact blk_i64 KG6 (by have := HNN.out; have := HN0.out; omega)
              have ck6 : w6.cell? ⟨g, k, none⟩ = some (.int .i64 f) := (hb6.cell (p := ⟨g, k, none⟩) KGR.out.lt).trans ck
              have SC := hide (set_c X f x FM.out (fun h => absurd h HH6.out) w6 _ K6 rfl)
              have CA2 : Blk w6 X 24 (c.A none 0) := by unfold Cl.A clA; rw [HCR.out]; exact K6
              have k8 := CA2.set_ (posF f) (valF f x)
              rw [setFld_A c f x FM.out none 0] at k8
              have cr8 : (setFld c f x).rq = [] := by rw [setFld_rq]; exact HCR.out
              unfold Cl.A clA at k8
              rw [cr8] at k8
              have K8 := hide k8
              have C8 := hide cr8
              have B8 := hide ((HBR.out.trans (hb6.mono (by have := HKB.out.lt; omega))).setCell (p := ⟨X, posF f, none⟩) (Nat.le_refl _) (valF f x))
              have N8 := hide ((HON.out.trans (Only.of_below hb6)).trans (Only.set_ (S := [X]) w6 (p := ⟨X, posF f, none⟩) (valF f x) (List.mem_singleton.2 rfl)))
              clear K6 KG6 CA2 k8 cr8 hb6
              go_wp2_with fail
              refine SC.out.mono ?_
              rintro e w7 ⟨rfl, rfl⟩
              go_wp2_with fail
              go_roundw
              case rel => exact ⟨k + 1, setFld c f x, by omega, by go_num, NX2, C8, K8, N8, B8⟩
              case measure => simp [RowKit.intOf] <;> omega
            · have hp2 : ∀ n, parseIntB 64 it ≠ .ok n := fun n e => hp ⟨n, e⟩
              have PN := hide (pint_no it itl hp2 wr (HEB.out wr HBR.out))
              have WHY : Hid (readP s = none) := hide (by rw [RP.out]; exact rdF_none kd its (i := k + 1) (by rw [NX.out, rdS_no h6 hp2]) m (by omega))
              obtain ⟨IB, hIB⟩ : ∃ z, bytes it = z := ⟨_, rfl⟩
              rw [hIB] at it0 PN
              clear hp hp2 hIB itl h6
              go_wp2_with fail
              refine PN.out.mono ?_
              rintro e w6 ⟨x, te, pe, rfl, hb6⟩
              have kz := HKB.out.below hb6 HKB.out.lt
              have bz := HBR.out.trans (hb6.mono (by have := HKB.out.lt; omega))
              clear hb6
              have z0 : w6.cell? ⟨X, 0, none⟩ = some (.int .u8 c.k) := kz.cell 0
              have z1 : w6.cell? ⟨X, 1, none⟩ = some (.int .i64 c.co) := kz.cell 1
              have z2 : w6.cell? ⟨X, 2, none⟩ = some (.int .i64 c.pe) := kz.cell 2
              have z3 : w6.cell? ⟨X, 3, none⟩ = some (.int .i64 c.tg) := kz.cell 3
              have z4 : w6.cell? ⟨X, 4, none⟩ = some (.int .i64 c.va) := kz.cell 4
              have z5 : w6.cell? ⟨X, 5, none⟩ = some (.int .i64 c.sz) := kz.cell 5
              have z6 : w6.cell? ⟨X, 6, none⟩ = some (.int .i64 c.ro) := kz.cell 6
              have z7 : w6.cell? ⟨X, 7, none⟩ = some (.int .u8 c.op) := kz.cell 7
              have z8 : w6.cell? ⟨X, 8, none⟩ = some (.slice none 0 0) := kz.cell 8
              have z9 : w6.cell? ⟨X, 9, none⟩ = some (.int .i64 c.cl) := kz.cell 9
              have z10 : w6.cell? ⟨X, 10, none⟩ = some (.int .i64 c.ky) := kz.cell 10
              have f0 := kz.frozen 0
              have f1 := kz.frozen 1
              have f2 := kz.frozen 2
              have f3 := kz.frozen 3
              have f4 := kz.frozen 4
              have f5 := kz.frozen 5
              have f6 := kz.frozen 6
              have f7 := kz.frozen 7
              have f8 := kz.frozen 8
              have f9 := kz.frozen 9
              have f10 := kz.frozen 10
              have k9 := put11 kz (.int .u8 0) (.int .i64 0) (.int .i64 0) (.int .i64 0) (.int .i64 0) (.int .i64 0) (.int .i64 0) (.int .u8 0) (.slice none 0 0) (.int .i64 0) (.int .i64 0)
              have b9 := bel11 bz (.int .u8 0) (.int .i64 0) (.int .i64 0) (.int .i64 0) (.int .i64 0) (.int .i64 0) (.int .i64 0) (.int .u8 0) (.slice none 0 0) (.int .i64 0) (.int .i64 0)
              obtain ⟨w9, hw9⟩ : ∃ z, (((((((((((w6.setCell ⟨X, 0, none⟩ (.int .u8 0)).setCell ⟨X, 1, none⟩ (.int .i64 0)).setCell ⟨X, 2, none⟩ (.int .i64 0)).setCell ⟨X, 3, none⟩ (.int .i64 0)).setCell ⟨X, 4, none⟩ (.int .i64 0)).setCell ⟨X, 5, none⟩ (.int .i64 0)).setCell ⟨X, 6, none⟩ (.int .i64 0)).setCell ⟨X, 7, none⟩ (.int .u8 0)).setCell ⟨X, 8, none⟩ (.slice none 0 0)).setCell ⟨X, 9, none⟩ (.int .i64 0)).setCell ⟨X, 10, none⟩ (.int .i64 0)) = z := ⟨_, rfl⟩
              rw [hw9] at k9 b9
              have u0 : w9.cell? ⟨X, 0, none⟩ = some (.int .u8 0) := k9.cell 0
              have u1 : w9.cell? ⟨X, 1, none⟩ = some (.int .i64 0) := k9.cell 1
              have u2 : w9.cell? ⟨X, 2, none⟩ = some (.int .i64 0) := k9.cell 2
              have u3 : w9.cell? ⟨X, 3, none⟩ = some (.int .i64 0) := k9.cell 3
              have u4 : w9.cell? ⟨X, 4, none⟩ = some (.int .i64 0) := k9.cell 4
              have u5 : w9.cell? ⟨X, 5, none⟩ = some (.int .i64 0) := k9.cell 5
              have u6 : w9.cell? ⟨X, 6, none⟩ = some (.int .i64 0) := k9.cell 6
              have u7 : w9.cell? ⟨X, 7, none⟩ = some (.int .u8 0) := k9.cell 7
              have u8 : w9.cell? ⟨X, 8, none⟩ = some (.slice none 0 0) := k9.cell 8
              have u9 : w9.cell? ⟨X, 9, none⟩ = some (.int .i64 0) := k9.cell 9
              have u10 : w9.cell? ⟨X, 10, none⟩ = some (.int .i64 0) := k9.cell 10
              have HB9 := hide b9
              clear b9 k9
              go_wp2_with fail
              exact bodyPost_ret (v := .tuple #[.agg #[.int .u8 0, .int .i64 0, .int .i64 0, .int .i64 0, .int .i64 0, .int .i64 0, .int .i64 0, .int .u8 0, .slice none 0 0, .int .i64 0, .int .i64 0], .bool false]) (by simp [results, Tryd.results34, go_sem, u0, u1, u2, u3, u4, u5, u6, u7, u8, u9, u10]) rfl ⟨.inl ⟨WHY.out, rfl⟩, by rw [HX.out]; exact HB9.out⟩
end Cal
end Go.Proofs.YthcoelkpiflfeaaDoor
