/- A text parsed as a call: the document. -/
import Derived.Test.YthcoelkpiflfeaaDoorRows
import Derived.Test.YthcoelkpiflfeaaDoorCtR
import Derived.Test.YthcoelkpiflfeaaDoorCtJ
import Derived.Test.YthcoelkpiflfeaaDoorCtK
import Derived.Test.YthcoelkpiflfeaaDoorCtNb
import Derived.Deep.CutRange
import Derived.Deep.LoopGhost
namespace Go.Proofs.YthcoelkpiflfeaaDoor
open Go Go.RowKit Go.Lib Go.Proofs.YthcoelkpiflfeaaDoor.Grp
set_option linter.unusedVariables false
set_option linter.unusedSimpArgs false
namespace Cal
open TreeCallsW (names callOf callOf_at callOf_none call_b argsOf args_b)
open Wit (rdB rdB_itoa rdB_sound)
theorem callOf_le (x : List UInt8) : callOf x ≤ 22 := by
  by_cases h : ∃ j, j < 22 ∧ x = names.getD j []
  · obtain ⟨j, hj, rfl⟩ := h
    have : ∀ n : Fin 22, callOf (names.getD n.1 []) ≤ 22 := by decide +kernel
    exact this ⟨j, hj⟩
  · rw [callOf_none x fun q hq => by
      rw [beq_eq_false_iff_ne]
      intro e
      obtain ⟨j, hj, rfl⟩ := List.getElem_of_mem hq
      exact h ⟨j, (by simpa [names] using hj), by rw [e, List.getD_eq_getElem?_getD, List.getElem?_eq_getElem hj]; rfl⟩]
    exact Nat.zero_le _
/-- Behind the fields. -/
def FldP (w : World) (T X Z0 D : Nat) (A : Option Addr) (cap : Nat) (args : List (List UInt8)) (k op : Int) (l : List Int) (wx : World) : Prop :=
  ∃ (c : Cl) (rq : Option Addr) (rc : Nat), setB k op l = some c ∧ PSt w T X Z0 D A cap args #[.int .u8 c.k, .int .i64 c.co, .int .i64 c.pe, .int .i64 c.tg, .int .i64 c.va, .int .i64 c.sz, .int .i64 c.ro, .int .u8 c.op, .slice rq c.rq.length rc, .int .i64 c.cl, .int .i64 c.ky] wx ∧ wx.ownsRow T 3 1 (.slice rq c.rq.length rc) c.rq.length (i64s c.rq)
/-- Behind the reduction. -/
def RedP (w : World) (T X Z0 D : Nat) (A : Option Addr) (cap : Nat) (args : List (List UInt8)) (k : Int) (x : Value) (wx : World) : Prop :=
  ∃ (op : Int) (n : Nat), x = .slice A n cap ∧ n ≤ args.length ∧ opB k args = op ∧ (0 ≤ op ∧ op ≤ 255) ∧ itsB k args = args.take n ∧ PSt w T X Z0 D A cap args #[.int .u8 k, .int .i64 0, .int .i64 0, .int .i64 0, .int .i64 0, .int .i64 0, .int .i64 0, .int .u8 op, .slice none 0 0, .int .i64 0, .int .i64 0] wx
set_option maxRecDepth 100000 in
set_option maxHeartbeats 32000000 in
theorem Parse_b (s : List UInt8) (w : World) (hs : s.length ≤ 900) :
    Calls Tryd.prog 10 #[.string (bytes s)] w (ParseIs s w) := by
  have hb1 := (Below.refl w.heap.size w).alloc (Nat.le_refl _) (.cells #[.int .u8 0, .int .i64 0, .int .i64 0, .int .i64 0, .int .i64 0, .int .i64 0, .int .i64 0, .int .u8 0, .slice none 0 0, .int .i64 0, .int .i64 0] 24)
  have k1 := Blk.new w 24 #[.int .u8 0, .int .i64 0, .int .i64 0, .int .i64 0, .int .i64 0, .int .i64 0, .int .i64 0, .int .u8 0, .slice none 0 0, .int .i64 0, .int .i64 0]
  go_enter Tryd.func10, Tryd.ntmps10
  go_upto_region 1 with (fail)
  obtain ⟨w1, hw1⟩ : ∃ z, w.alloc (.cells #[.int .u8 0, .int .i64 0, .int .i64 0, .int .i64 0, .int .i64 0, .int .i64 0, .int .i64 0, .int .u8 0, .slice none 0 0, .int .i64 0, .int .i64 0] 24) = z := ⟨_, rfl⟩
  rw [hw1] at hb1 k1 ⊢
  obtain ⟨X, hX⟩ : ∃ X, w.heap.size = X := ⟨_, rfl⟩
  rw [hX] at k1 hb1 ⊢
  have HX := hide hX
  have HS := hide hs
  have b2 := (Below.refl w1.heap.size w1).alloc (Nat.le_refl _) (.cells #[.int .u8 0, .int .i64 0, .int .i64 0, .int .i64 0, .int .i64 0, .int .i64 0, .int .i64 0, .int .u8 0, .slice none 0 0, .int .i64 0, .int .i64 0] 24)
  have z2 := Blk.new w1 24 #[.int .u8 0, .int .i64 0, .int .i64 0, .int .i64 0, .int .i64 0, .int .i64 0, .int .i64 0, .int .u8 0, .slice none 0 0, .int .i64 0, .int .i64 0]
  obtain ⟨Z0, hZ⟩ : ∃ Y, w1.heap.size = Y := ⟨_, rfl⟩
  obtain ⟨w2, hw2⟩ : ∃ z, w1.alloc (.cells #[.int .u8 0, .int .i64 0, .int .i64 0, .int .i64 0, .int .i64 0, .int .i64 0, .int .i64 0, .int .u8 0, .slice none 0 0, .int .i64 0, .int .i64 0] 24) = z := ⟨_, rfl⟩
  rw [hw2, hZ] at b2 z2
  have HXZ := hide (show X < Z0 by rw [← hZ]; exact k1.lt)
  have K2 := hide (k1.below b2 HXZ.out)
  have Z2 := hide z2
  have B2 := hide (hb1.trans (b2.mono (Nat.le_of_lt HXZ.out)))
  have PS := hide (parts_b s w2 (by omega))
  have HW2 := hide hw2
  have HZ := hide hZ
  clear hb1 k1 b2 z2 hw1 hw2 hX hZ hs
  go_upto_region 2 with (fail)
  rw [HW2.out, HZ.out]
  clear HW2 HZ
  go_wp2_with fail
  refine PS.out.mono ?_
  rintro e w3 ⟨hr, hb3⟩
  obtain ⟨wd, args, A, cap, ok, n, rfl, hn, hno, hyes, hown⟩ : ∃ (wd : List UInt8) (args : List (List UInt8)) (A : Option Addr) (cap : Nat) (ok : Bool) (n : Nat), e = .returned (.tuple #[.string (bytes wd), .slice A n cap, .bool ok]) ∧ args.length = n ∧ (ok = false → ptB s = none) ∧ (ok = true → ptB s = some (wd, args)) ∧ w3.ownsRow w2.heap.size 9 1 (.slice A args.length cap) args.length (strC args) := by
    rcases hr with ⟨hn, rfl⟩ | ⟨wd, args, A, cap, hp, rfl, ho⟩
    · exact ⟨[], [], none, 0, false, 0, rfl, rfl, fun _ => hn, fun h => (by cases h), rfl, .inl ⟨rfl, rfl⟩⟩
    · exact ⟨wd, args, A, cap, true, args.length, rfl, rfl, fun h => (by cases h), fun _ => hp, ho⟩
  have HW23 := hide hb3.size
  have K3 := hide (K2.out.below hb3 K2.out.lt)
  have Z3 := hide (Z2.out.below hb3 Z2.out.lt)
  have B3 := hide (B2.out.trans (hb3.mono (Nat.le_of_lt K2.out.lt)))
  have O3 := hide hown
  have HXW := hide (show X ≤ w2.heap.size from Nat.le_of_lt K2.out.lt)
  have HN := hide hn
  have HNO := hide hno
  have HYES := hide hyes
  have CB := hide (call_b (bytes wd) w3)
  have ewd : (bytes wd).toList = wd := by rw [ByteArray.toList_eq, bytes_data]
  rw [ewd] at CB
  obtain ⟨k, hk⟩ : ∃ k : Int, ((callOf wd : Nat) : Int) = k := ⟨_, rfl⟩
  rw [hk] at CB
  have HKR := hide (show 0 ≤ k ∧ k ≤ 255 by have := callOf_le wd; omega)
  have HK := hide hk
  have HKR2 := hide (show 0 ≤ k ∧ k ≤ 22 by have := callOf_le wd; omega)
  clear hb3 hown hn hno hyes hr ewd hk K2 Z2 B2 PS
  go_wp2_with fail
  refine CB.out.mono ?_
  rintro e w4 ⟨rfl, hb4⟩
  have ba := (Below.refl w4.heap.size w4).alloc (Nat.le_refl _) (.cells #[.int .u8 k, .int .i64 0, .int .i64 0, .int .i64 0, .int .i64 0, .int .i64 0, .int .i64 0, .int .u8 0, .slice none 0 0, .int .i64 0, .int .i64 0] 24)
  have kd := Blk.new w4 24 #[.int .u8 k, .int .i64 0, .int .i64 0, .int .i64 0, .int .i64 0, .int .i64 0, .int .i64 0, .int .u8 0, .slice none 0 0, .int .i64 0, .int .i64 0]
  obtain ⟨D, hD⟩ : ∃ Y, w4.heap.size = Y := ⟨_, rfl⟩
  obtain ⟨w5, hw5⟩ : ∃ z, w4.alloc (.cells #[.int .u8 k, .int .i64 0, .int .i64 0, .int .i64 0, .int .i64 0, .int .i64 0, .int .i64 0, .int .u8 0, .slice none 0 0, .int .i64 0, .int .i64 0] 24) = z := ⟨_, rfl⟩
  have s5 : w5.heap.size = D + 1 := by rw [← hw5, ← hD]; simp
  rw [hw5] at ba kd
  have bb := hb4.trans (ba.mono hb4.size)
  have h34 := hb4.size
  have h3X := K3.out.lt
  have h3Z := Z3.out.lt
  rw [hD] at kd
  have hrl : ∀ a, A = some a → a.block < w3.heap.size := fun a ha => by
    rcases O3.out.2 with ⟨hv, _⟩ | ⟨g, _, _, hv, _, hh, _⟩
    · injection hv with hv; rw [hv] at ha; cases ha
    · injection hv with hv; rw [hv] at ha; cases ha; exact (Array.getElem?_eq_some_iff.1 hh).1
  obtain ⟨T, hT⟩ : ∃ T, w5.heap.size = T := ⟨_, rfl⟩
  have HP5 := hide (show PSt w T X Z0 D A cap args #[.int .u8 k, .int .i64 0, .int .i64 0, .int .i64 0, .int .i64 0, .int .i64 0, .int .i64 0, .int .u8 0, .slice none 0 0, .int .i64 0, .int .i64 0] w5 from
    ⟨K3.out.below bb K3.out.lt, Z3.out.below bb Z3.out.lt, kd, own_wide (own_belowR O3.out bb) HXW.out, B3.out.trans (bb.mono (Nat.le_of_lt h3X)), by omega, by omega, by omega, fun a ha => by have := hrl a ha; omega, by omega, by omega, by omega, fun a ha => by have := hrl a ha; omega⟩)
  have HW5 := hide hw5
  have HD := hide hD
  clear ba kd hw5 s5 hb4 bb h34 h3X h3Z hrl hD hT K3 Z3 B3 O3 HXW CB HW23
  go_upto_region 4 with (fail)
  rw [HW5.out, HD.out]
  clear HW5 HD
  have d0 : w5.cell? ⟨D, 0, none⟩ = some (.int .u8 k) := HP5.out.db.cell 0
  have hok : ok = false ∨ ok = true := by cases ok <;> simp
  rcases hok with rfl | rfl
  · have WHY := hide (parsedB_no (readB_no1 (HNO.out rfl)))
    clear d0
    have q0 : w5.cell? ⟨Z0, 0, none⟩ = some (.int .u8 0) := HP5.out.zb.cell 0
    have q1 : w5.cell? ⟨Z0, 1, none⟩ = some (.int .i64 0) := HP5.out.zb.cell 1
    have q2 : w5.cell? ⟨Z0, 2, none⟩ = some (.int .i64 0) := HP5.out.zb.cell 2
    have q3 : w5.cell? ⟨Z0, 3, none⟩ = some (.int .i64 0) := HP5.out.zb.cell 3
    have q4 : w5.cell? ⟨Z0, 4, none⟩ = some (.int .i64 0) := HP5.out.zb.cell 4
    have q5 : w5.cell? ⟨Z0, 5, none⟩ = some (.int .i64 0) := HP5.out.zb.cell 5
    have q6 : w5.cell? ⟨Z0, 6, none⟩ = some (.int .i64 0) := HP5.out.zb.cell 6
    have q7 : w5.cell? ⟨Z0, 7, none⟩ = some (.int .u8 0) := HP5.out.zb.cell 7
    have q8 : w5.cell? ⟨Z0, 8, none⟩ = some (.slice none 0 0) := HP5.out.zb.cell 8
    have q9 : w5.cell? ⟨Z0, 9, none⟩ = some (.int .i64 0) := HP5.out.zb.cell 9
    have q10 : w5.cell? ⟨Z0, 10, none⟩ = some (.int .i64 0) := HP5.out.zb.cell 10
    have kz := HP5.out.xb
    have bz := HP5.out.low
    have z0 : w5.cell? ⟨X, 0, none⟩ = some (.int .u8 0) := kz.cell 0
    have z1 : w5.cell? ⟨X, 1, none⟩ = some (.int .i64 0) := kz.cell 1
    have z2 : w5.cell? ⟨X, 2, none⟩ = some (.int .i64 0) := kz.cell 2
    have z3 : w5.cell? ⟨X, 3, none⟩ = some (.int .i64 0) := kz.cell 3
    have z4 : w5.cell? ⟨X, 4, none⟩ = some (.int .i64 0) := kz.cell 4
    have z5 : w5.cell? ⟨X, 5, none⟩ = some (.int .i64 0) := kz.cell 5
    have z6 : w5.cell? ⟨X, 6, none⟩ = some (.int .i64 0) := kz.cell 6
    have z7 : w5.cell? ⟨X, 7, none⟩ = some (.int .u8 0) := kz.cell 7
    have z8 : w5.cell? ⟨X, 8, none⟩ = some (.slice none 0 0) := kz.cell 8
    have z9 : w5.cell? ⟨X, 9, none⟩ = some (.int .i64 0) := kz.cell 9
    have z10 : w5.cell? ⟨X, 10, none⟩ = some (.int .i64 0) := kz.cell 10
    have f0 := kz.frozen 0
    have f1 := kz.frozen 1
    have f2 := kz.frozen 2
    have f3 := kz.frozen 3
    have f4 := kz.frozen 4
    have f5 := kz.frozen 5
    have f6 := kz.frozen 6
    have f7 := kz.frozen 7
    have f8 := kz.frozen 8
    have f9 := kz.frozen 9
    have f10 := kz.frozen 10
    have k9 := put11 kz (.int .u8 0) (.int .i64 0) (.int .i64 0) (.int .i64 0) (.int .i64 0) (.int .i64 0) (.int .i64 0) (.int .u8 0) (.slice none 0 0) (.int .i64 0) (.int .i64 0)
    have b9 := bel11 bz (.int .u8 0) (.int .i64 0) (.int .i64 0) (.int .i64 0) (.int .i64 0) (.int .i64 0) (.int .i64 0) (.int .u8 0) (.slice none 0 0) (.int .i64 0) (.int .i64 0)
    obtain ⟨w9, hw9⟩ : ∃ z, (((((((((((w5.setCell ⟨X, 0, none⟩ (.int .u8 0)).setCell ⟨X, 1, none⟩ (.int .i64 0)).setCell ⟨X, 2, none⟩ (.int .i64 0)).setCell ⟨X, 3, none⟩ (.int .i64 0)).setCell ⟨X, 4, none⟩ (.int .i64 0)).setCell ⟨X, 5, none⟩ (.int .i64 0)).setCell ⟨X, 6, none⟩ (.int .i64 0)).setCell ⟨X, 7, none⟩ (.int .u8 0)).setCell ⟨X, 8, none⟩ (.slice none 0 0)).setCell ⟨X, 9, none⟩ (.int .i64 0)).setCell ⟨X, 10, none⟩ (.int .i64 0)) = z := ⟨_, rfl⟩
    rw [hw9] at k9 b9
    have u0 : w9.cell? ⟨X, 0, none⟩ = some (.int .u8 0) := k9.cell 0
    have u1 : w9.cell? ⟨X, 1, none⟩ = some (.int .i64 0) := k9.cell 1
    have u2 : w9.cell? ⟨X, 2, none⟩ = some (.int .i64 0) := k9.cell 2
    have u3 : w9.cell? ⟨X, 3, none⟩ = some (.int .i64 0) := k9.cell 3
    have u4 : w9.cell? ⟨X, 4, none⟩ = some (.int .i64 0) := k9.cell 4
    have u5 : w9.cell? ⟨X, 5, none⟩ = some (.int .i64 0) := k9.cell 5
    have u6 : w9.cell? ⟨X, 6, none⟩ = some (.int .i64 0) := k9.cell 6
    have u7 : w9.cell? ⟨X, 7, none⟩ = some (.int .u8 0) := k9.cell 7
    have u8 : w9.cell? ⟨X, 8, none⟩ = some (.slice none 0 0) := k9.cell 8
    have u9 : w9.cell? ⟨X, 9, none⟩ = some (.int .i64 0) := k9.cell 9
    have u10 : w9.cell? ⟨X, 10, none⟩ = some (.int .i64 0) := k9.cell 10
    have HB9 := hide b9
    clear b9 k9
    go_wp2_with fail
    exact bodyPost_ret (v := .tuple #[.agg #[.int .u8 0, .int .i64 0, .int .i64 0, .int .i64 0, .int .i64 0, .int .i64 0, .int .i64 0, .int .u8 0, .slice none 0 0, .int .i64 0, .int .i64 0], .int .i64 160]) (by simp [results, Tryd.results10, go_sem, u0, u1, u2, u3, u4, u5, u6, u7, u8, u9, u10]) rfl ⟨.inl ⟨WHY.out, rfl⟩, by rw [HX.out]; exact HB9.out⟩
  have PT := hide (HYES.out rfl)
  clear HNO HYES
  by_cases hk0 : k = 0
  · subst hk0
    have WHY := hide (parsedB_no (readB_no2 PT.out HK.out))
    have q0 : w5.cell? ⟨Z0, 0, none⟩ = some (.int .u8 0) := HP5.out.zb.cell 0
    have q1 : w5.cell? ⟨Z0, 1, none⟩ = some (.int .i64 0) := HP5.out.zb.cell 1
    have q2 : w5.cell? ⟨Z0, 2, none⟩ = some (.int .i64 0) := HP5.out.zb.cell 2
    have q3 : w5.cell? ⟨Z0, 3, none⟩ = some (.int .i64 0) := HP5.out.zb.cell 3
    have q4 : w5.cell? ⟨Z0, 4, none⟩ = some (.int .i64 0) := HP5.out.zb.cell 4
    have q5 : w5.cell? ⟨Z0, 5, none⟩ = some (.int .i64 0) := HP5.out.zb.cell 5
    have q6 : w5.cell? ⟨Z0, 6, none⟩ = some (.int .i64 0) := HP5.out.zb.cell 6
    have q7 : w5.cell? ⟨Z0, 7, none⟩ = some (.int .u8 0) := HP5.out.zb.cell 7
    have q8 : w5.cell? ⟨Z0, 8, none⟩ = some (.slice none 0 0) := HP5.out.zb.cell 8
    have q9 : w5.cell? ⟨Z0, 9, none⟩ = some (.int .i64 0) := HP5.out.zb.cell 9
    have q10 : w5.cell? ⟨Z0, 10, none⟩ = some (.int .i64 0) := HP5.out.zb.cell 10
    have kz := HP5.out.xb
    have bz := HP5.out.low
    have z0 : w5.cell? ⟨X, 0, none⟩ = some (.int .u8 0) := kz.cell 0
    have z1 : w5.cell? ⟨X, 1, none⟩ = some (.int .i64 0) := kz.cell 1
    have z2 : w5.cell? ⟨X, 2, none⟩ = some (.int .i64 0) := kz.cell 2
    have z3 : w5.cell? ⟨X, 3, none⟩ = some (.int .i64 0) := kz.cell 3
    have z4 : w5.cell? ⟨X, 4, none⟩ = some (.int .i64 0) := kz.cell 4
    have z5 : w5.cell? ⟨X, 5, none⟩ = some (.int .i64 0) := kz.cell 5
    have z6 : w5.cell? ⟨X, 6, none⟩ = some (.int .i64 0) := kz.cell 6
    have z7 : w5.cell? ⟨X, 7, none⟩ = some (.int .u8 0) := kz.cell 7
    have z8 : w5.cell? ⟨X, 8, none⟩ = some (.slice none 0 0) := kz.cell 8
    have z9 : w5.cell? ⟨X, 9, none⟩ = some (.int .i64 0) := kz.cell 9
    have z10 : w5.cell? ⟨X, 10, none⟩ = some (.int .i64 0) := kz.cell 10
    have f0 := kz.frozen 0
    have f1 := kz.frozen 1
    have f2 := kz.frozen 2
    have f3 := kz.frozen 3
    have f4 := kz.frozen 4
    have f5 := kz.frozen 5
    have f6 := kz.frozen 6
    have f7 := kz.frozen 7
    have f8 := kz.frozen 8
    have f9 := kz.frozen 9
    have f10 := kz.frozen 10
    have k9 := put11 kz (.int .u8 0) (.int .i64 0) (.int .i64 0) (.int .i64 0) (.int .i64 0) (.int .i64 0) (.int .i64 0) (.int .u8 0) (.slice none 0 0) (.int .i64 0) (.int .i64 0)
    have b9 := bel11 bz (.int .u8 0) (.int .i64 0) (.int .i64 0) (.int .i64 0) (.int .i64 0) (.int .i64 0) (.int .i64 0) (.int .u8 0) (.slice none 0 0) (.int .i64 0) (.int .i64 0)
    obtain ⟨w9, hw9⟩ : ∃ z, (((((((((((w5.setCell ⟨X, 0, none⟩ (.int .u8 0)).setCell ⟨X, 1, none⟩ (.int .i64 0)).setCell ⟨X, 2, none⟩ (.int .i64 0)).setCell ⟨X, 3, none⟩ (.int .i64 0)).setCell ⟨X, 4, none⟩ (.int .i64 0)).setCell ⟨X, 5, none⟩ (.int .i64 0)).setCell ⟨X, 6, none⟩ (.int .i64 0)).setCell ⟨X, 7, none⟩ (.int .u8 0)).setCell ⟨X, 8, none⟩ (.slice none 0 0)).setCell ⟨X, 9, none⟩ (.int .i64 0)).setCell ⟨X, 10, none⟩ (.int .i64 0)) = z := ⟨_, rfl⟩
    rw [hw9] at k9 b9
    have u0 : w9.cell? ⟨X, 0, none⟩ = some (.int .u8 0) := k9.cell 0
    have u1 : w9.cell? ⟨X, 1, none⟩ = some (.int .i64 0) := k9.cell 1
    have u2 : w9.cell? ⟨X, 2, none⟩ = some (.int .i64 0) := k9.cell 2
    have u3 : w9.cell? ⟨X, 3, none⟩ = some (.int .i64 0) := k9.cell 3
    have u4 : w9.cell? ⟨X, 4, none⟩ = some (.int .i64 0) := k9.cell 4
    have u5 : w9.cell? ⟨X, 5, none⟩ = some (.int .i64 0) := k9.cell 5
    have u6 : w9.cell? ⟨X, 6, none⟩ = some (.int .i64 0) := k9.cell 6
    have u7 : w9.cell? ⟨X, 7, none⟩ = some (.int .u8 0) := k9.cell 7
    have u8 : w9.cell? ⟨X, 8, none⟩ = some (.slice none 0 0) := k9.cell 8
    have u9 : w9.cell? ⟨X, 9, none⟩ = some (.int .i64 0) := k9.cell 9
    have u10 : w9.cell? ⟨X, 10, none⟩ = some (.int .i64 0) := k9.cell 10
    have HB9 := hide b9
    clear b9 k9
    go_wp2_with fail
    exact bodyPost_ret (v := .tuple #[.agg #[.int .u8 0, .int .i64 0, .int .i64 0, .int .i64 0, .int .i64 0, .int .i64 0, .int .i64 0, .int .u8 0, .slice none 0 0, .int .i64 0, .int .i64 0], .int .i64 160]) (by simp [results, Tryd.results10, go_sem, u0, u1, u2, u3, u4, u5, u6, u7, u8, u9, u10]) rfl ⟨.inl ⟨WHY.out, rfl⟩, by rw [HX.out]; exact HB9.out⟩
  have RDB := hide (readB_eq PT.out HK.out hk0)
  have ARG := hide (ptB_args PT.out)
  have HK0 := hide hk0
  have RB := hide (Reduces_b k w5)
  obtain ⟨rb, hrb⟩ : ∃ b, decide (redK k) = b := ⟨_, rfl⟩
  rw [hrb] at RB
  have HRB := hide hrb
  clear hrb PT HK
  go_upto_region 6 with (fail)
  clear hk0
  go_wp2_with fail
  refine RB.out.mono ?_
  rintro e w5b ⟨rfl, hw5b⟩
  obtain rfl : w5 = w5b := hw5b.symm
  clear RB
  go_upto_if 39 with (fail)
  go_cut [6] from 40 to 63 (fun x6 wx => RedP w T X Z0 D A cap args k x6 wx)
  case first =>
    cases rb with
    | false =>
      have hnr : ¬ redK k := of_decide_eq_false HRB.out
      have P0 := hide (show RedP w T X Z0 D A cap args k (.slice A n cap) w5 from
        ⟨0, n, rfl, by rw [HN.out]; exact Nat.le_refl _, if_neg hnr, by omega, by rw [← HN.out, List.take_length]; exact if_neg hnr, HP5.out⟩)
      clear hnr
      go_wp2_with fail
      refine Met.intro ?_
      go_step
      (repeat apply Exists.intro)
      refine And.intro ?relm1 ?frm1
      case frm1 => with_reducible rfl
      exact P0.out
    | true =>
      have HRE := hide (show redK k from of_decide_eq_true HRB.out)
      obtain ⟨g, hA, hcap⟩ := HP5.out.base (by have := ARG.out.1; cases args with | nil => exact absurd rfl this | cons _ _ => simp)
      subst hA
      obtain ⟨m, rfl⟩ : ∃ m, n = m + 1 := ⟨n - 1, by have h1 := HN.out; have h2 : args.length ≠ 0 := fun e => ARG.out.1 (List.eq_nil_of_length_eq_zero e); omega⟩
      obtain ⟨last, hlast⟩ : ∃ x, args.getLastD [] = x := ⟨_, rfl⟩
      have hlm : args[m]? = some last := by
        rw [← hlast, List.getLastD_eq_getLast?, List.getLast?_eq_getElem?, HN.out, Nat.add_sub_cancel, List.getElem?_eq_getElem (by have := HN.out; omega)]
        rfl
      have HMC := hide (show m + 1 ≤ cap by have := HN.out; omega)
      have HLM := hide hlm
      have HLA := hide hlast
      have HWM := hide (show wrap64 (((m + 1 : Nat) : Int) - 1) = (m : Int) by
        have h1 := HN.out
        have h2 := ARG.out.2.1
        have h3 := HS.out
        unfold wrap64
        omega)
      have HWM2 : Hid (IntKind.i64.wrap (m : Int) = (m : Int)) := hide (by
        have h1 := HN.out
        have h2 := ARG.out.2.1
        have h3 := HS.out
        rw [IntKind.wrap_i64]
        omega)
      clear hlm hlast hcap d0
      go_wp2_with fail
      go_loopg [] 3 (fun gk wr => ∃ i : Nat, gk = 3 - i ∧ i ≤ 3 ∧ Hid (PSt w T X Z0 D (some ⟨g, 0, none⟩) cap args #[.int .u8 k, .int .i64 0, .int .i64 0, .int .i64 0, .int .i64 0, .int .i64 0, .int .i64 0, .int .u8 i, .slice none 0 0, .int .i64 0, .int .i64 0] wr) ∧ Hid (∀ j : Nat, j < i → ¬ redL (j : Int) = last))
      case atStart => exact ⟨0, rfl, by omega, HP5, hide (fun j hj => absurd hj (Nat.not_lt_zero j))⟩
      case round =>
        obtain ⟨i, hgk, hi, HPR, HNE⟩ := hrel
        rename World => wr
        have hopc : ∀ wx, Below wr.heap.size wr wx → wx.cell? ⟨D, 7, none⟩ = some (.int .u8 (i : Int)) := fun wx hj => (HPR.out.on hj).db.cell 7
        have hlst : ∀ wx, Below wr.heap.size wr wx → wx.cell? ⟨g, m, none⟩ = some (.string (bytes last)) := fun wx hj => (HPR.out.on hj).item rfl HLM.out
        obtain ⟨LS, hLS⟩ : ∃ z, bytes last = z := ⟨_, rfl⟩
        rw [hLS] at hlst
        go_upto_region 7 with (fail)
        by_cases hlt : i < 3
        · have hltI : (i : Int) < 3 := by omega
          have RDI := hide (fun w' => red_b (i : Int) ⟨by omega, by omega⟩ w')
          obtain ⟨LI, hLI⟩ : ∃ z, bytes (redL (i : Int)) = z := ⟨_, rfl⟩
          rw [hLI] at RDI
          obtain ⟨ne, hne⟩ : ∃ b, (!(LI.toList == LS.toList)) = b := ⟨_, rfl⟩
          have HNEQ : Hid (ne = !decide (redL (i : Int) = last)) := hide (by rw [← hne, ← hLI, ← hLS, beq_word])
          have hHne := hide hne
          have hHLT := hide hlt
          clear hLI hLS hne hlt
          let R : Nat → Value → World → Prop := fun sl u w1 => match sl with
            | 40 => u = .pointer (some ⟨D, 7, none⟩)
            | 41 => u = .int .u8 i
            | 42 => u = .bool true
            | 43 => u = .bool true
            | 44 => u = .pointer (some ⟨D, 7, none⟩)
            | 45 => u = .int .u8 i
            | 46 => u = .string LI
            | 47 => u = .slice (some ⟨g, 0, none⟩) (m + 1) cap
            | 48 => u = .slice (some ⟨g, 0, none⟩) (m + 1) cap
            | 49 => u = .int .i64 ((m + 1 : Nat) : Int)
            | 50 => u = .int .i64 m
            | 51 => u = .pointer (some ⟨g, m, none⟩)
            | 52 => u = .string LS
            | 53 => u = .bool ne
            | 54 => u = .bool ne
            | _ => True
          refine wp_region_relGW [(43, true)] R (fun a b => Below a.heap.size a b) (fun _ w => Below wr.heap.size wr w) (by kernel_rfl) (by kernel_rfl) (by kernel_rfl) (by kernel_rfl) ?mono (fun w => Below.refl _ _) ((Below.refl _ _).drew) ?gs ?step ?fin
          case mono =>
            intro sl u wx wy h hk
            match sl with
            | 0 | 1 | 2 | 3 | 4 | 5 | 6 | 7 | 8 | 9 | 10 | 11 | 12 | 13 | 14 | 15 | 16 | 17 | 18 | 19 | 20 | 21 | 22 | 23 | 24 | 25 | 26 | 27 | 28 | 29 | 30 | 31 | 32 | 33 | 34 | 35 | 36 | 37 | 38 | 39 | 40 | 41 | 42 | 43 | 44 | 45 | 46 | 47 | 48 | 49 | 50 | 51 | 52 | 53 | 54 | _ + 55 => exact h
          case gs =>
            intro p hp u w1 h
            simp only [List.mem_cons, List.not_mem_nil, or_false] at hp
            rcases hp with rfl <;> exact h
          case step =>
            intro j o ho
            match j, ho with
            | 0, ho =>
              cases ho
              intro V aa wx hV hdep hval hj hsm hr
              have e8 : aa.tmps.getD 8 undef = .pointer (some ⟨D, 0, none⟩) := hsm 8 (by decide)
              rw [Array.getD_eq_getD_getElem?] at e8
              unfold Oper.wp
              simp only [execOp, Act.eval, Array.getD_eq_getD_getElem?, e8]
              go_simp
              first | exact ⟨_, rfl, rfl, Below.refl _ _⟩ | exact ⟨_, rfl, rfl, Below.refl _ _, hj⟩ | exact ⟨_, rfl, Below.refl _ _, hj⟩ | exact ⟨_, rfl, hj⟩
            | 1, ho =>
              cases ho
              intro V aa wx hV hdep hval hj hsm hr
              have e40 : aa.tmps.getD 40 undef = .pointer (some ⟨D, 7, none⟩) := hr 40 (by decide) (by apply Array.mem_toList_iff.1; repeat (first | exact List.Mem.head _ | apply List.Mem.tail))
              have cc7 := hopc wx hj
              rw [Array.getD_eq_getD_getElem?] at e40
              unfold Oper.wp
              simp only [execOp, Act.eval, Array.getD_eq_getD_getElem?, e40]
              go_simp
              first | exact ⟨_, rfl, rfl, Below.refl _ _⟩ | exact ⟨_, rfl, rfl, Below.refl _ _, hj⟩ | exact ⟨_, rfl, Below.refl _ _, hj⟩ | exact ⟨_, rfl, hj⟩
            | 2, ho =>
              cases ho
              intro V aa wx hV hdep hval hj hsm hr
              have e41 : aa.tmps.getD 41 undef = .int .u8 i := hr 41 (by decide) (by apply Array.mem_toList_iff.1; repeat (first | exact List.Mem.head _ | apply List.Mem.tail))
              rw [Array.getD_eq_getD_getElem?] at e41
              unfold Oper.wp
              simp only [execOp, Act.eval, Array.getD_eq_getD_getElem?, e41]
              go_simp
              first | exact ⟨_, rfl, rfl, Below.refl _ _⟩ | exact ⟨_, rfl, rfl, Below.refl _ _, hj⟩ | exact ⟨_, rfl, Below.refl _ _, hj⟩ | exact ⟨_, rfl, hj⟩
            | 3, ho =>
              cases ho
              intro V aa wx hV hdep hval hj hsm hr
              have e42 : aa.tmps.getD 42 undef = .bool true := hr 42 (by decide) (by apply Array.mem_toList_iff.1; repeat (first | exact List.Mem.head _ | apply List.Mem.tail))
              rw [Array.getD_eq_getD_getElem?] at e42
              unfold Oper.wp
              simp only [execOp, Act.eval, Array.getD_eq_getD_getElem?, e42]
              go_simp
              first | exact ⟨_, rfl, rfl, Below.refl _ _⟩ | exact ⟨_, rfl, rfl, Below.refl _ _, hj⟩ | exact ⟨_, rfl, Below.refl _ _, hj⟩ | exact ⟨_, rfl, hj⟩
            | 4, ho =>
              cases ho
              intro V aa wx hV hdep hval hj hsm hr
              have e8 : aa.tmps.getD 8 undef = .pointer (some ⟨D, 0, none⟩) := hsm 8 (by decide)
              rw [Array.getD_eq_getD_getElem?] at e8
              unfold Oper.wp
              simp only [execOp, Act.eval, Array.getD_eq_getD_getElem?, e8]
              go_simp
              first | exact ⟨_, rfl, rfl, Below.refl _ _⟩ | exact ⟨_, rfl, rfl, Below.refl _ _, hj⟩ | exact ⟨_, rfl, Below.refl _ _, hj⟩ | exact ⟨_, rfl, hj⟩
            | 5, ho =>
              cases ho
              intro V aa wx hV hdep hval hj hsm hr
              have e44 : aa.tmps.getD 44 undef = .pointer (some ⟨D, 7, none⟩) := hr 44 (by decide) (by apply Array.mem_toList_iff.1; repeat (first | exact List.Mem.head _ | apply List.Mem.tail))
              have cc7 := hopc wx hj
              rw [Array.getD_eq_getD_getElem?] at e44
              unfold Oper.wp
              simp only [execOp, Act.eval, Array.getD_eq_getD_getElem?, e44]
              go_simp
              first | exact ⟨_, rfl, rfl, Below.refl _ _⟩ | exact ⟨_, rfl, rfl, Below.refl _ _, hj⟩ | exact ⟨_, rfl, Below.refl _ _, hj⟩ | exact ⟨_, rfl, hj⟩
            | 6, ho =>
              cases ho
              intro V aa wx hV hdep hval hj hsm hr
              have e45 : aa.tmps.getD 45 undef = .int .u8 i := hr 45 (by decide) (by apply Array.mem_toList_iff.1; repeat (first | exact List.Mem.head _ | apply List.Mem.tail))
              rw [Array.getD_eq_getD_getElem?] at e45
              unfold Oper.wp
              simp only [execOp, Act.eval, Array.getD_eq_getD_getElem?, e45]
              go_simp
              refine (RDI.out wx).mono ?_
              rintro e w' ⟨rfl, rfl⟩
              exact ⟨_, rfl, rfl, Below.refl _ _, hj⟩
            | 7, ho =>
              cases ho
              intro V aa wx hV hdep hval hj hsm hr
              have e6 : aa.tmps.getD 6 undef = .slice (some ⟨g, 0, none⟩) (m + 1) cap := hsm 6 (by decide)
              rw [Array.getD_eq_getD_getElem?] at e6
              unfold Oper.wp
              simp only [execOp, Act.eval, Array.getD_eq_getD_getElem?, e6]
              go_simp
              first | exact ⟨_, rfl, rfl, Below.refl _ _⟩ | exact ⟨_, rfl, rfl, Below.refl _ _, hj⟩ | exact ⟨_, rfl, Below.refl _ _, hj⟩ | exact ⟨_, rfl, hj⟩
            | 8, ho =>
              cases ho
              intro V aa wx hV hdep hval hj hsm hr
              have e6 : aa.tmps.getD 6 undef = .slice (some ⟨g, 0, none⟩) (m + 1) cap := hsm 6 (by decide)
              rw [Array.getD_eq_getD_getElem?] at e6
              unfold Oper.wp
              simp only [execOp, Act.eval, Array.getD_eq_getD_getElem?, e6]
              go_simp
              first | exact ⟨_, rfl, rfl, Below.refl _ _⟩ | exact ⟨_, rfl, rfl, Below.refl _ _, hj⟩ | exact ⟨_, rfl, Below.refl _ _, hj⟩ | exact ⟨_, rfl, hj⟩
            | 9, ho =>
              cases ho
              intro V aa wx hV hdep hval hj hsm hr
              have e48 : aa.tmps.getD 48 undef = .slice (some ⟨g, 0, none⟩) (m + 1) cap := hr 48 (by decide) (by apply Array.mem_toList_iff.1; repeat (first | exact List.Mem.head _ | apply List.Mem.tail))
              rw [Array.getD_eq_getD_getElem?] at e48
              unfold Oper.wp
              simp only [execOp, Act.eval, Array.getD_eq_getD_getElem?, e48]
              go_simp
              first | exact ⟨_, rfl, rfl, Below.refl _ _⟩ | exact ⟨_, rfl, rfl, Below.refl _ _, hj⟩ | exact ⟨_, rfl, Below.refl _ _, hj⟩ | exact ⟨_, rfl, hj⟩
            | 10, ho =>
              cases ho
              intro V aa wx hV hdep hval hj hsm hr
              have e49 : aa.tmps.getD 49 undef = .int .i64 ((m + 1 : Nat) : Int) := hr 49 (by decide) (by apply Array.mem_toList_iff.1; repeat (first | exact List.Mem.head _ | apply List.Mem.tail))
              have wm := HWM.out
              have wm2 := HWM2.out
              rw [Array.getD_eq_getD_getElem?] at e49
              unfold Oper.wp
              simp only [execOp, Act.eval, Array.getD_eq_getD_getElem?, e49]
              go_simp
              first | exact ⟨_, rfl, rfl, Below.refl _ _⟩ | exact ⟨_, rfl, rfl, Below.refl _ _, hj⟩ | exact ⟨_, rfl, Below.refl _ _, hj⟩ | exact ⟨_, rfl, hj⟩
            | 11, ho =>
              cases ho
              intro V aa wx hV hdep hval hj hsm hr
              have e47 : aa.tmps.getD 47 undef = .slice (some ⟨g, 0, none⟩) (m + 1) cap := hr 47 (by decide) (by apply Array.mem_toList_iff.1; repeat (first | exact List.Mem.head _ | apply List.Mem.tail))
              have e50 : aa.tmps.getD 50 undef = .int .i64 m := hr 50 (by decide) (by apply Array.mem_toList_iff.1; repeat (first | exact List.Mem.head _ | apply List.Mem.tail))
              have hmI : (m : Int) < (m : Int) + 1 := by omega
              have hm0 : (0 : Int) ≤ (m : Int) := by omega
              rw [Array.getD_eq_getD_getElem?] at e47
              rw [Array.getD_eq_getD_getElem?] at e50
              unfold Oper.wp
              simp only [execOp, Act.eval, Array.getD_eq_getD_getElem?, e47, e50]
              go_simp
              first | exact ⟨_, rfl, rfl, Below.refl _ _⟩ | exact ⟨_, rfl, rfl, Below.refl _ _, hj⟩ | exact ⟨_, rfl, Below.refl _ _, hj⟩ | exact ⟨_, rfl, hj⟩
            | 12, ho =>
              cases ho
              intro V aa wx hV hdep hval hj hsm hr
              have e51 : aa.tmps.getD 51 undef = .pointer (some ⟨g, m, none⟩) := hr 51 (by decide) (by apply Array.mem_toList_iff.1; repeat (first | exact List.Mem.head _ | apply List.Mem.tail))
              have ccl := hlst wx hj
              rw [Array.getD_eq_getD_getElem?] at e51
              unfold Oper.wp
              simp only [execOp, Act.eval, Array.getD_eq_getD_getElem?, e51]
              go_simp
              first | exact ⟨_, rfl, rfl, Below.refl _ _⟩ | exact ⟨_, rfl, rfl, Below.refl _ _, hj⟩ | exact ⟨_, rfl, Below.refl _ _, hj⟩ | exact ⟨_, rfl, hj⟩
            | 13, ho =>
              cases ho
              intro V aa wx hV hdep hval hj hsm hr
              have e46 : aa.tmps.getD 46 undef = .string LI := hr 46 (by decide) (by apply Array.mem_toList_iff.1; repeat (first | exact List.Mem.head _ | apply List.Mem.tail))
              have e52 : aa.tmps.getD 52 undef = .string LS := hr 52 (by decide) (by apply Array.mem_toList_iff.1; repeat (first | exact List.Mem.head _ | apply List.Mem.tail))
              rw [Array.getD_eq_getD_getElem?] at e46
              rw [Array.getD_eq_getD_getElem?] at e52
              unfold Oper.wp
              simp only [execOp, Act.eval, Array.getD_eq_getD_getElem?, e46, e52]
              go_simp
              exact ⟨_, rfl, (by show Value.bool (!(LI.toList == LS.toList)) = .bool ne; rw [hHne.out]), Below.refl _ _⟩
            | 14, ho =>
              cases ho
              intro V aa wx hV hdep hval hj hsm hr
              have e43 : aa.tmps.getD 43 undef = .bool true := hr 43 (by decide) (by apply Array.mem_toList_iff.1; repeat (first | exact List.Mem.head _ | apply List.Mem.tail))
              have e53 : aa.tmps.getD 53 undef = .bool ne := hr 53 (by decide) (by apply Array.mem_toList_iff.1; repeat (first | exact List.Mem.head _ | apply List.Mem.tail))
              rw [Array.getD_eq_getD_getElem?] at e43
              rw [Array.getD_eq_getD_getElem?] at e53
              unfold Oper.wp
              simp only [execOp, Act.eval, Array.getD_eq_getD_getElem?, e43, e53]
              go_simp
              first | exact ⟨_, rfl, rfl, Below.refl _ _⟩ | exact ⟨_, rfl, rfl, Below.refl _ _, hj⟩ | exact ⟨_, rfl, Below.refl _ _, hj⟩ | exact ⟨_, rfl, hj⟩
            | _ + 15, ho => cases ho
          case fin =>
            intro ff V w7 hV hj hr
            have e54 : ff 54 = .bool ne := hr 54 (by decide)
            have HP7 := hide (HPR.out.on hj)
            clear hV hr hj
            simp only [putAll, slotsOf, List.filterMap_cons, List.filterMap_nil, List.foldl_cons, List.foldl_nil, Act.put, e54]
            simp only [List.setIfInBounds_toArray, List.set_cons_succ, List.set_cons_zero]
            cases ne with
            | true =>
              have hq : ¬ redL (i : Int) = last := fun e => by have := HNEQ.out; rw [decide_eq_true e] at this; cases this
              have HNE1 := hide (show ∀ j : Nat, j < i + 1 → ¬ redL (j : Int) = last from fun j hj => by
                by_cases e : j = i
                · rw [e]; exact hq
                · exact HNE.out j (by omega))
              have z7 : w7.cell? ⟨D, 7, none⟩ = some (.int .u8 (i : Int)) := HP7.out.db.cell 7
              have f7 := HP7.out.db.frozen 7
              have HP8 : Hid (PSt w T X Z0 D (some ⟨g, 0, none⟩) cap args #[.int .u8 k, .int .i64 0, .int .i64 0, .int .i64 0, .int .i64 0, .int .i64 0, .int .i64 0, .int .u8 ((i + 1 : Nat) : Int), .slice none 0 0, .int .i64 0, .int .i64 0] (w7.setCell ⟨D, 7, none⟩ (.int .u8 ((i + 1 : Nat) : Int)))) := hide (HP7.out.set 7 (.int .u8 ((i + 1 : Nat) : Int)))
              have w8a : IntKind.u8.wrap ((i : Int) + 1) = ((i + 1 : Nat) : Int) := by have := hHLT.out; rw [IntKind.wrap_u8]; omega
              clear hq hopc hlst hltI
              go_wp2_with fail
              go_roundg (3 - (i + 1))
              case rel => exact ⟨i + 1, rfl, by have := hHLT.out; omega, HP8, HNE1⟩
              case measure => have := hHLT.out; omega
            | false =>
              have hq : redL (i : Int) = last := by
                by_cases e : redL (i : Int) = last
                · exact e
                · have := HNEQ.out; rw [decide_eq_false e] at this; cases this
              have HQ := hide hq
              clear hq hopc hlst hltI
              have P0 := hide (show RedP w T X Z0 D (some ⟨g, 0, none⟩) cap args k (.slice (some ⟨g, 0, none⟩) m cap) w7 from
                ⟨(i : Int), m, rfl, by have := HN.out; omega, (if_pos HRE.out).trans (by rw [HLA.out]; exact redB_is hi HNE.out (.inr HQ.out)), by omega, (if_pos HRE.out).trans (by rw [List.dropLast_eq_take, HN.out, Nat.add_sub_cancel]), HP7.out⟩)
              have hm0 : (0 : Int) ≤ (m : Int) := by omega
              have hmc : (m : Int) ≤ (cap : Int) := by have := HMC.out; omega
              have wm := HWM.out
              have wm2 := HWM2.out
              go_wp2_with fail
              refine Met.intro ?_
              go_step
              (repeat apply Exists.intro)
              refine And.intro ?relm2 ?frm2
              case frm2 => with_reducible rfl
              exact P0.out
        · have hltI : ¬ (i : Int) < 3 := by omega
          have hi3 := hide (show i = 3 by omega)
          clear hLS hlt
          let R : Nat → Value → World → Prop := fun sl u w1 => match sl with
            | 40 => u = .pointer (some ⟨D, 7, none⟩)
            | 41 => u = .int .u8 i
            | 42 => u = .bool false
            | 43 => u = .bool false
            | 54 => u = .bool false
            | _ => True
          let G0 : Nat → Bool := fun i => match i with | 4 => false | 5 => false | 6 => false | 7 => false | 8 => false | 9 => false | 10 => false | 11 => false | 12 => false | 13 => false | _ => true
          refine wp_region_relG G0 R (fun a b => Below a.heap.size a b) (fun _ w => Below wr.heap.size wr w) (by kernel_rfl) (by kernel_rfl) (by kernel_rfl) ?mono (fun w => Below.refl _ _) ((Below.refl _ _).drew) (by kernel_rfl) ?gg ?step ?skip ?fin
          case mono =>
            intro sl u wx wy h hk
            match sl with
            | 0 | 1 | 2 | 3 | 4 | 5 | 6 | 7 | 8 | 9 | 10 | 11 | 12 | 13 | 14 | 15 | 16 | 17 | 18 | 19 | 20 | 21 | 22 | 23 | 24 | 25 | 26 | 27 | 28 | 29 | 30 | 31 | 32 | 33 | 34 | 35 | 36 | 37 | 38 | 39 | 40 | 41 | 42 | 43 | 44 | 45 | 46 | 47 | 48 | 49 | 50 | 51 | 52 | 53 | 54 | _ + 55 => exact h
          case gg =>
            intro i o g b o' t u w ho hg hg1 hd hr
            match i, ho with
            | 0, ho => cases ho; cases hg
            | 1, ho => cases ho; cases hg
            | 2, ho => cases ho; cases hg
            | 3, ho => cases ho; cases hg
            | 4, ho =>
              cases ho; cases hg; cases hg1; cases hd
              have e : u = .bool false := hr
              rw [e]; rfl
            | 5, ho =>
              cases ho; cases hg; cases hg1; cases hd
              have e : u = .bool false := hr
              rw [e]; rfl
            | 6, ho =>
              cases ho; cases hg; cases hg1; cases hd
              have e : u = .bool false := hr
              rw [e]; rfl
            | 7, ho =>
              cases ho; cases hg; cases hg1; cases hd
              have e : u = .bool false := hr
              rw [e]; rfl
            | 8, ho =>
              cases ho; cases hg; cases hg1; cases hd
              have e : u = .bool false := hr
              rw [e]; rfl
            | 9, ho =>
              cases ho; cases hg; cases hg1; cases hd
              have e : u = .bool false := hr
              rw [e]; rfl
            | 10, ho =>
              cases ho; cases hg; cases hg1; cases hd
              have e : u = .bool false := hr
              rw [e]; rfl
            | 11, ho =>
              cases ho; cases hg; cases hg1; cases hd
              have e : u = .bool false := hr
              rw [e]; rfl
            | 12, ho =>
              cases ho; cases hg; cases hg1; cases hd
              have e : u = .bool false := hr
              rw [e]; rfl
            | 13, ho =>
              cases ho; cases hg; cases hg1; cases hd
              have e : u = .bool false := hr
              rw [e]; rfl
            | 14, ho => cases ho; cases hg
            | _ + 15, ho => cases ho
          case skip =>
            intro i o ho hG V w hV hj
            match i, ho with
            | 0, ho => exact absurd hG (by show ¬ (true = false); decide)
            | 1, ho => exact absurd hG (by show ¬ (true = false); decide)
            | 2, ho => exact absurd hG (by show ¬ (true = false); decide)
            | 3, ho => exact absurd hG (by show ¬ (true = false); decide)
            | 4, ho => cases ho; exact ⟨fun t ht => by cases ht; trivial, hj⟩
            | 5, ho => cases ho; exact ⟨fun t ht => by cases ht; trivial, hj⟩
            | 6, ho => cases ho; exact ⟨fun t ht => by cases ht; trivial, hj⟩
            | 7, ho => cases ho; exact ⟨fun t ht => by cases ht; trivial, hj⟩
            | 8, ho => cases ho; exact ⟨fun t ht => by cases ht; trivial, hj⟩
            | 9, ho => cases ho; exact ⟨fun t ht => by cases ht; trivial, hj⟩
            | 10, ho => cases ho; exact ⟨fun t ht => by cases ht; trivial, hj⟩
            | 11, ho => cases ho; exact ⟨fun t ht => by cases ht; trivial, hj⟩
            | 12, ho => cases ho; exact ⟨fun t ht => by cases ht; trivial, hj⟩
            | 13, ho => cases ho; exact ⟨fun t ht => by cases ht; trivial, hj⟩
            | 14, ho => exact absurd hG (by show ¬ (true = false); decide)
            | _ + 15, ho => cases ho
          case step =>
            intro j o ho hG
            match j, ho with
            | 0, ho =>
              cases ho
              intro V aa wx hV hdep hval hj hsm hr
              have e8 : aa.tmps.getD 8 undef = .pointer (some ⟨D, 0, none⟩) := hsm 8 (by decide)
              rw [Array.getD_eq_getD_getElem?] at e8
              unfold Oper.wp
              simp only [execOp, Act.eval, Array.getD_eq_getD_getElem?, e8]
              go_simp
              first | exact ⟨_, rfl, rfl, Below.refl _ _⟩ | exact ⟨_, rfl, rfl, Below.refl _ _, hj⟩ | exact ⟨_, rfl, Below.refl _ _, hj⟩ | exact ⟨_, rfl, hj⟩
            | 1, ho =>
              cases ho
              intro V aa wx hV hdep hval hj hsm hr
              have e40 : aa.tmps.getD 40 undef = .pointer (some ⟨D, 7, none⟩) := hr 40 (by decide) (by apply Array.mem_toList_iff.1; repeat (first | exact List.Mem.head _ | apply List.Mem.tail))
              have cc7 := hopc wx hj
              rw [Array.getD_eq_getD_getElem?] at e40
              unfold Oper.wp
              simp only [execOp, Act.eval, Array.getD_eq_getD_getElem?, e40]
              go_simp
              first | exact ⟨_, rfl, rfl, Below.refl _ _⟩ | exact ⟨_, rfl, rfl, Below.refl _ _, hj⟩ | exact ⟨_, rfl, Below.refl _ _, hj⟩ | exact ⟨_, rfl, hj⟩
            | 2, ho =>
              cases ho
              intro V aa wx hV hdep hval hj hsm hr
              have e41 : aa.tmps.getD 41 undef = .int .u8 i := hr 41 (by decide) (by apply Array.mem_toList_iff.1; repeat (first | exact List.Mem.head _ | apply List.Mem.tail))
              rw [Array.getD_eq_getD_getElem?] at e41
              unfold Oper.wp
              simp only [execOp, Act.eval, Array.getD_eq_getD_getElem?, e41]
              go_simp
              first | exact ⟨_, rfl, rfl, Below.refl _ _⟩ | exact ⟨_, rfl, rfl, Below.refl _ _, hj⟩ | exact ⟨_, rfl, Below.refl _ _, hj⟩ | exact ⟨_, rfl, hj⟩
            | 3, ho =>
              cases ho
              intro V aa wx hV hdep hval hj hsm hr
              have e42 : aa.tmps.getD 42 undef = .bool false := hr 42 (by decide) (by apply Array.mem_toList_iff.1; repeat (first | exact List.Mem.head _ | apply List.Mem.tail))
              rw [Array.getD_eq_getD_getElem?] at e42
              unfold Oper.wp
              simp only [execOp, Act.eval, Array.getD_eq_getD_getElem?, e42]
              go_simp
              first | exact ⟨_, rfl, rfl, Below.refl _ _⟩ | exact ⟨_, rfl, rfl, Below.refl _ _, hj⟩ | exact ⟨_, rfl, Below.refl _ _, hj⟩ | exact ⟨_, rfl, hj⟩
            | 4, ho => exact absurd hG (by show ¬ (false = true); decide)
            | 5, ho => exact absurd hG (by show ¬ (false = true); decide)
            | 6, ho => exact absurd hG (by show ¬ (false = true); decide)
            | 7, ho => exact absurd hG (by show ¬ (false = true); decide)
            | 8, ho => exact absurd hG (by show ¬ (false = true); decide)
            | 9, ho => exact absurd hG (by show ¬ (false = true); decide)
            | 10, ho => exact absurd hG (by show ¬ (false = true); decide)
            | 11, ho => exact absurd hG (by show ¬ (false = true); decide)
            | 12, ho => exact absurd hG (by show ¬ (false = true); decide)
            | 13, ho => exact absurd hG (by show ¬ (false = true); decide)
            | 14, ho =>
              cases ho
              intro V aa wx hV hdep hval hj hsm hr
              have e43 : aa.tmps.getD 43 undef = .bool false := hr 43 (by decide) (by apply Array.mem_toList_iff.1; repeat (first | exact List.Mem.head _ | apply List.Mem.tail))
              rw [Array.getD_eq_getD_getElem?] at e43
              unfold Oper.wp
              simp only [execOp, Act.eval, Array.getD_eq_getD_getElem?, e43]
              go_simp
              first | exact ⟨_, rfl, rfl, Below.refl _ _⟩ | exact ⟨_, rfl, rfl, Below.refl _ _, hj⟩ | exact ⟨_, rfl, Below.refl _ _, hj⟩ | exact ⟨_, rfl, hj⟩
            | _ + 15, ho => cases ho
          case fin =>
            intro ff V w7 hV hj hr
            have e54 : ff 54 = .bool false := hr 54 (by decide)
            have HP7 := hide (HPR.out.on hj)
            clear hV hr hj
            simp only [putAll, slotsOf, List.filterMap_cons, List.filterMap_nil, List.foldl_cons, List.foldl_nil, Act.put, e54]
            simp only [List.setIfInBounds_toArray, List.set_cons_succ, List.set_cons_zero]
            clear hopc hlst hltI
            have P0 := hide (show RedP w T X Z0 D (some ⟨g, 0, none⟩) cap args k (.slice (some ⟨g, 0, none⟩) m cap) w7 from
              ⟨(i : Int), m, rfl, by have := HN.out; omega, (if_pos HRE.out).trans (by rw [HLA.out]; exact redB_is hi HNE.out (.inl hi3.out)), by omega, (if_pos HRE.out).trans (by rw [List.dropLast_eq_take, HN.out, Nat.add_sub_cancel]), HP7.out⟩)
            have hm0 : (0 : Int) ≤ (m : Int) := by omega
            have hmc : (m : Int) ≤ (cap : Int) := by have := HMC.out; omega
            have wm := HWM.out
            have wm2 := HWM2.out
            go_wp2_with fail
            refine Met.intro ?_
            go_step
            (repeat apply Exists.intro)
            refine And.intro ?relm3 ?frm3
            case frm3 => with_reducible rfl
            exact P0.out
  obtain ⟨op, n2, rfl, hn2, hop, hopr, hits, hp6⟩ := hcut
  obtain ⟨w6, hw6⟩ : ∃ z, z = wc := ⟨_, rfl⟩
  subst hw6
  have HP6 := hide hp6
  have HN2 := hide hn2
  have HOP := hide hop
  have HOR := hide hopr
  have HIT := hide hits
  clear hp6 hn2 hop hopr hits HP5 d0
  have HITL := hide (show (itsB k args).length = n2 by rw [HIT.out, List.length_take]; have := HN2.out; omega)
  have H66 := hide (show w6.heap.size ≤ w6.heap.size from Nat.le_refl _)
  have OL0 := hide (show w6.ownsRow w6.heap.size 2 1 (.slice none 0 0) 0 (i64s []) from ⟨rfl, .inl ⟨rfl, rfl⟩⟩)
  have hn2b : n2 ≤ 1000 := by have h1 := HN2.out; have h2 := ARG.out.2.1; have h3 := HS.out; omega
  have HNB := hide hn2b
  go_wp2_with fail
  go_loopw [9, 10, 11, 12] (fun v9 v10 _ _ wr => ∃ (i : Nat) (l : List Int) (Al : Option Addr) (cl : Nat), i ≤ n2 ∧ v9 = .slice Al i cl ∧ v10 = .int .i64 i ∧ Hid (nbF (itsB k args) i = some l) ∧ Hid (PSt w T X Z0 D A cap args #[.int .u8 k, .int .i64 0, .int .i64 0, .int .i64 0, .int .i64 0, .int .i64 0, .int .i64 0, .int .u8 op, .slice none 0 0, .int .i64 0, .int .i64 0] wr) ∧ Hid (wr.ownsRow w6.heap.size 2 1 (.slice Al i cl) i (i64s l)) ∧ Hid (w6.heap.size ≤ wr.heap.size)) (fun _ v10 _ _ _ => n2 - (RowKit.intOf v10).toNat)
  case atStart => exact ⟨0, [], none, 0, Nat.zero_le _, rfl, rfl, hide rfl, HP6, OL0, H66⟩
  case round =>
    obtain ⟨i, l, Al, cl, hi, rfl, rfl, HNF, HPR, HOL, HWR⟩ := hrel
    rename World => wr
    by_cases hlt : i < n2
    · have hltI : (i : Int) < (n2 : Int) := by omega
      obtain ⟨g, hA, hcap⟩ := HPR.out.base (by have := HN2.out; omega)
      subst hA
      obtain ⟨it, hitd⟩ : ∃ z, (itsB k args).getD i [] = z := ⟨_, rfl⟩
      have hit : args[i]? = some it := by
        rw [← hitd, List.getD_eq_getElem?_getD, HIT.out, List.getElem?_take, if_pos hlt, List.getElem?_eq_getElem (by have := HN2.out; omega)]
        rfl
      have hil : it.length ≤ 1000000 := by have := ARG.out.2.2 it (List.mem_of_getElem? hit); have := HS.out; omega
      have it0 : wr.cell? ⟨g, i, none⟩ = some (.string (bytes it)) := HPR.out.item rfl hit
      obtain ⟨x, hx⟩ : ∃ x, (rdB it).1 = x := ⟨_, rfl⟩
      obtain ⟨b, hb⟩ : ∃ b, (rdB it).2 = b := ⟨_, rfl⟩
      have NB := hide (number_b (bytes it) wr (by rw [bytes_size]; omega))
      rw [bytes_data, hx, hb] at NB
      obtain ⟨IBs, hIB⟩ : ∃ z, bytes it = z := ⟨_, rfl⟩
      rw [hIB] at it0 NB
      have HX1 := hide hx
      have HB1 := hide hb
      have HTD := hide hitd
      have HLT := hide hlt
      clear hIB hcap hit hil hx hb hitd
      go_wp2_with fail
      refine NB.out.mono ?_
      rintro e w7 ⟨rfl, hb7⟩
      have HP7 := hide (HPR.out.on hb7)
      have OL7 := hide (own_belowR HOL.out hb7)
      have HW7 := hide (Nat.le_trans HWR.out hb7.size)
      clear hb7 NB it0 HPR HOL HWR
      cases b with
      | false =>
        have WHY : Hid (ParsedAs s none) := hide (parsedB_no (by rw [RDB.out, HITL.out, nbF_no HNF.out (by rw [HTD.out]; exact HB1.out) n2 HLT.out]))
        have q0 : w7.cell? ⟨Z0, 0, none⟩ = some (.int .u8 0) := HP7.out.zb.cell 0
        have q1 : w7.cell? ⟨Z0, 1, none⟩ = some (.int .i64 0) := HP7.out.zb.cell 1
        have q2 : w7.cell? ⟨Z0, 2, none⟩ = some (.int .i64 0) := HP7.out.zb.cell 2
        have q3 : w7.cell? ⟨Z0, 3, none⟩ = some (.int .i64 0) := HP7.out.zb.cell 3
        have q4 : w7.cell? ⟨Z0, 4, none⟩ = some (.int .i64 0) := HP7.out.zb.cell 4
        have q5 : w7.cell? ⟨Z0, 5, none⟩ = some (.int .i64 0) := HP7.out.zb.cell 5
        have q6 : w7.cell? ⟨Z0, 6, none⟩ = some (.int .i64 0) := HP7.out.zb.cell 6
        have q7 : w7.cell? ⟨Z0, 7, none⟩ = some (.int .u8 0) := HP7.out.zb.cell 7
        have q8 : w7.cell? ⟨Z0, 8, none⟩ = some (.slice none 0 0) := HP7.out.zb.cell 8
        have q9 : w7.cell? ⟨Z0, 9, none⟩ = some (.int .i64 0) := HP7.out.zb.cell 9
        have q10 : w7.cell? ⟨Z0, 10, none⟩ = some (.int .i64 0) := HP7.out.zb.cell 10
        have kz := HP7.out.xb
        have bz := HP7.out.low
        have z0 : w7.cell? ⟨X, 0, none⟩ = some (.int .u8 0) := kz.cell 0
        have z1 : w7.cell? ⟨X, 1, none⟩ = some (.int .i64 0) := kz.cell 1
        have z2 : w7.cell? ⟨X, 2, none⟩ = some (.int .i64 0) := kz.cell 2
        have z3 : w7.cell? ⟨X, 3, none⟩ = some (.int .i64 0) := kz.cell 3
        have z4 : w7.cell? ⟨X, 4, none⟩ = some (.int .i64 0) := kz.cell 4
        have z5 : w7.cell? ⟨X, 5, none⟩ = some (.int .i64 0) := kz.cell 5
        have z6 : w7.cell? ⟨X, 6, none⟩ = some (.int .i64 0) := kz.cell 6
        have z7 : w7.cell? ⟨X, 7, none⟩ = some (.int .u8 0) := kz.cell 7
        have z8 : w7.cell? ⟨X, 8, none⟩ = some (.slice none 0 0) := kz.cell 8
        have z9 : w7.cell? ⟨X, 9, none⟩ = some (.int .i64 0) := kz.cell 9
        have z10 : w7.cell? ⟨X, 10, none⟩ = some (.int .i64 0) := kz.cell 10
        have f0 := kz.frozen 0
        have f1 := kz.frozen 1
        have f2 := kz.frozen 2
        have f3 := kz.frozen 3
        have f4 := kz.frozen 4
        have f5 := kz.frozen 5
        have f6 := kz.frozen 6
        have f7 := kz.frozen 7
        have f8 := kz.frozen 8
        have f9 := kz.frozen 9
        have f10 := kz.frozen 10
        have k9 := put11 kz (.int .u8 0) (.int .i64 0) (.int .i64 0) (.int .i64 0) (.int .i64 0) (.int .i64 0) (.int .i64 0) (.int .u8 0) (.slice none 0 0) (.int .i64 0) (.int .i64 0)
        have b9 := bel11 bz (.int .u8 0) (.int .i64 0) (.int .i64 0) (.int .i64 0) (.int .i64 0) (.int .i64 0) (.int .i64 0) (.int .u8 0) (.slice none 0 0) (.int .i64 0) (.int .i64 0)
        obtain ⟨w9, hw9⟩ : ∃ z, (((((((((((w7.setCell ⟨X, 0, none⟩ (.int .u8 0)).setCell ⟨X, 1, none⟩ (.int .i64 0)).setCell ⟨X, 2, none⟩ (.int .i64 0)).setCell ⟨X, 3, none⟩ (.int .i64 0)).setCell ⟨X, 4, none⟩ (.int .i64 0)).setCell ⟨X, 5, none⟩ (.int .i64 0)).setCell ⟨X, 6, none⟩ (.int .i64 0)).setCell ⟨X, 7, none⟩ (.int .u8 0)).setCell ⟨X, 8, none⟩ (.slice none 0 0)).setCell ⟨X, 9, none⟩ (.int .i64 0)).setCell ⟨X, 10, none⟩ (.int .i64 0)) = z := ⟨_, rfl⟩
        rw [hw9] at k9 b9
        have u0 : w9.cell? ⟨X, 0, none⟩ = some (.int .u8 0) := k9.cell 0
        have u1 : w9.cell? ⟨X, 1, none⟩ = some (.int .i64 0) := k9.cell 1
        have u2 : w9.cell? ⟨X, 2, none⟩ = some (.int .i64 0) := k9.cell 2
        have u3 : w9.cell? ⟨X, 3, none⟩ = some (.int .i64 0) := k9.cell 3
        have u4 : w9.cell? ⟨X, 4, none⟩ = some (.int .i64 0) := k9.cell 4
        have u5 : w9.cell? ⟨X, 5, none⟩ = some (.int .i64 0) := k9.cell 5
        have u6 : w9.cell? ⟨X, 6, none⟩ = some (.int .i64 0) := k9.cell 6
        have u7 : w9.cell? ⟨X, 7, none⟩ = some (.int .u8 0) := k9.cell 7
        have u8 : w9.cell? ⟨X, 8, none⟩ = some (.slice none 0 0) := k9.cell 8
        have u9 : w9.cell? ⟨X, 9, none⟩ = some (.int .i64 0) := k9.cell 9
        have u10 : w9.cell? ⟨X, 10, none⟩ = some (.int .i64 0) := k9.cell 10
        have HB9 := hide b9
        clear b9 k9
        go_wp2_with fail
        exact bodyPost_ret (v := .tuple #[.agg #[.int .u8 0, .int .i64 0, .int .i64 0, .int .i64 0, .int .i64 0, .int .i64 0, .int .i64 0, .int .u8 0, .slice none 0 0, .int .i64 0, .int .i64 0], .int .i64 160]) (by simp [results, Tryd.results10, go_sem, u0, u1, u2, u3, u4, u5, u6, u7, u8, u9, u10]) rfl ⟨.inl ⟨WHY.out, rfl⟩, by rw [HX.out]; exact HB9.out⟩
      | true =>
        have NF1 := hide (nbF_yes HNF.out (by rw [HTD.out]; exact HB1.out))
        rw [HTD.out, HX1.out] at NF1
        have hll := (nbF_fit _ _ _ HNF.out).1
        obtain ⟨A2, c2, w8, hrun, hown, hb8⟩ := push_64 w7 w6.heap.size Al cl i l x hll OL7.out HW7.out (by have := HNB.out; omega)
        have HP8 := hide (HP7.out.up (hb8.mono HP6.out.ht))
        have HW8 := hide (Nat.le_trans HW7.out hb8.size)
        have OL8 := hide hown
        have RUN := hide hrun
        clear hrun hown hb8 hll hltI hlt
        go_wp2_with (at_builtin; refine Lib.wpList_append_run _ rfl _ _ 50 50 rfl _ _ rfl rfl _ _ RUN.out ?_)
        go_roundw
        case rel => exact ⟨i + 1, l ++ [x], A2, c2, HLT.out, rfl, by go_num, NF1, HP8, OL8, HW8⟩
        case measure => have := HLT.out; simp [RowKit.intOf] <;> omega
    · have hltI : ¬ (i : Int) < (n2 : Int) := by omega
      obtain rfl : n2 = i := by omega
      have HFT := hide (nbF_fit _ _ _ HNF.out)
      have RDS : Hid (readB s = setB k op l) := hide (by
        rw [RDB.out, HITL.out, HNF.out]
        show setB k (opB k args) l = _
        rw [HOP.out])
      have HKC : Hid (kindC k) := hide (by
        have h1 := HK0.out
        have h2 := HKR2.out
        exact ⟨by omega, by omega⟩)
      have UB := hide (uses_b k wr)
      obtain ⟨U, hU⟩ : ∃ u : ByteArray, (⟨usesS k⟩ : ByteArray) = u := ⟨_, rfl⟩
      rw [hU] at UB
      have HU := hide hU
      have d0 : wr.cell? ⟨D, 0, none⟩ = some (.int .u8 k) := HPR.out.db.cell 0
      clear hU hi hlt hn2b
      go_upto_region 18 with (fail)
      clear hltI
      generalize hnI : (n2 : Int) = nI
      have HNI := hide hnI
      clear hnI
      go_wp2_with fail
      refine UB.out.mono ?_
      rintro e wrb ⟨rfl, hwrb⟩
      obtain rfl : wr = wrb := hwrb.symm
      clear UB
      go_upto_if 89 with (fail)
      generalize hbl : (U.toList == [108]) = bl
      have HBL := hide hbl
      clear hbl
      go_cut [14, 15, 16] from 90 to 175 (fun _ _ _ wx => FldP w T X Z0 D A cap args k op l wx)
      case first =>
        rcases shapes k with ⟨e, hu⟩ | ⟨e, hu⟩ | ⟨e, hu⟩ | ⟨e, hu⟩ | ⟨e, hu⟩ | ⟨e, hu⟩ | ⟨e, hu⟩ | ⟨e, hu⟩ | ⟨e, hu⟩
        · exact absurd e (kind_used HKC.out)
        · have USE := hide e
          have eU : U.toList = [99, 112, 116, 118, 115] := by rw [← HU.out, hu, ByteArray.toList_eq]
          have hb1 : bl = false := by rw [← HBL.out, eU]; decide
          subst hb1
          have ea : (argsOf k).1 = 5 := by rw [args_least HKC.out (by rw [e]; decide), e]; decide
          obtain ⟨a2, ha2⟩ : ∃ z, (argsOf k).2 = z := ⟨_, rfl⟩
          have AB := hide (args_b k wr)
          rw [ea, ha2] at AB
          clear e hu ea ha2
          go_wp2_with fail
          refine AB.out.mono ?_
          rintro e wrc ⟨rfl, hwrc⟩
          obtain rfl : wr = wrc := hwrc
          by_cases hn : n2 = 5
          rotate_left
          · have hnI : ¬ (n2 : Int) = 5 := by omega
            have hsn : setB k op l = none := by
              have hll := HFT.out.1
              simp [setB, USE.out, hll, hn]
            have WHY : Hid (ParsedAs s none) := hide (parsedB_no (by rw [RDS.out, hsn]))
            clear hsn hn
            have q0 : wr.cell? ⟨Z0, 0, none⟩ = some (.int .u8 0) := HPR.out.zb.cell 0
            have q1 : wr.cell? ⟨Z0, 1, none⟩ = some (.int .i64 0) := HPR.out.zb.cell 1
            have q2 : wr.cell? ⟨Z0, 2, none⟩ = some (.int .i64 0) := HPR.out.zb.cell 2
            have q3 : wr.cell? ⟨Z0, 3, none⟩ = some (.int .i64 0) := HPR.out.zb.cell 3
            have q4 : wr.cell? ⟨Z0, 4, none⟩ = some (.int .i64 0) := HPR.out.zb.cell 4
            have q5 : wr.cell? ⟨Z0, 5, none⟩ = some (.int .i64 0) := HPR.out.zb.cell 5
            have q6 : wr.cell? ⟨Z0, 6, none⟩ = some (.int .i64 0) := HPR.out.zb.cell 6
            have q7 : wr.cell? ⟨Z0, 7, none⟩ = some (.int .u8 0) := HPR.out.zb.cell 7
            have q8 : wr.cell? ⟨Z0, 8, none⟩ = some (.slice none 0 0) := HPR.out.zb.cell 8
            have q9 : wr.cell? ⟨Z0, 9, none⟩ = some (.int .i64 0) := HPR.out.zb.cell 9
            have q10 : wr.cell? ⟨Z0, 10, none⟩ = some (.int .i64 0) := HPR.out.zb.cell 10
            have kz := HPR.out.xb
            have bz := HPR.out.low
            have z0 : wr.cell? ⟨X, 0, none⟩ = some (.int .u8 0) := kz.cell 0
            have z1 : wr.cell? ⟨X, 1, none⟩ = some (.int .i64 0) := kz.cell 1
            have z2 : wr.cell? ⟨X, 2, none⟩ = some (.int .i64 0) := kz.cell 2
            have z3 : wr.cell? ⟨X, 3, none⟩ = some (.int .i64 0) := kz.cell 3
            have z4 : wr.cell? ⟨X, 4, none⟩ = some (.int .i64 0) := kz.cell 4
            have z5 : wr.cell? ⟨X, 5, none⟩ = some (.int .i64 0) := kz.cell 5
            have z6 : wr.cell? ⟨X, 6, none⟩ = some (.int .i64 0) := kz.cell 6
            have z7 : wr.cell? ⟨X, 7, none⟩ = some (.int .u8 0) := kz.cell 7
            have z8 : wr.cell? ⟨X, 8, none⟩ = some (.slice none 0 0) := kz.cell 8
            have z9 : wr.cell? ⟨X, 9, none⟩ = some (.int .i64 0) := kz.cell 9
            have z10 : wr.cell? ⟨X, 10, none⟩ = some (.int .i64 0) := kz.cell 10
            have f0 := kz.frozen 0
            have f1 := kz.frozen 1
            have f2 := kz.frozen 2
            have f3 := kz.frozen 3
            have f4 := kz.frozen 4
            have f5 := kz.frozen 5
            have f6 := kz.frozen 6
            have f7 := kz.frozen 7
            have f8 := kz.frozen 8
            have f9 := kz.frozen 9
            have f10 := kz.frozen 10
            have k9 := put11 kz (.int .u8 0) (.int .i64 0) (.int .i64 0) (.int .i64 0) (.int .i64 0) (.int .i64 0) (.int .i64 0) (.int .u8 0) (.slice none 0 0) (.int .i64 0) (.int .i64 0)
            have b9 := bel11 bz (.int .u8 0) (.int .i64 0) (.int .i64 0) (.int .i64 0) (.int .i64 0) (.int .i64 0) (.int .i64 0) (.int .u8 0) (.slice none 0 0) (.int .i64 0) (.int .i64 0)
            obtain ⟨w9, hw9⟩ : ∃ z, (((((((((((wr.setCell ⟨X, 0, none⟩ (.int .u8 0)).setCell ⟨X, 1, none⟩ (.int .i64 0)).setCell ⟨X, 2, none⟩ (.int .i64 0)).setCell ⟨X, 3, none⟩ (.int .i64 0)).setCell ⟨X, 4, none⟩ (.int .i64 0)).setCell ⟨X, 5, none⟩ (.int .i64 0)).setCell ⟨X, 6, none⟩ (.int .i64 0)).setCell ⟨X, 7, none⟩ (.int .u8 0)).setCell ⟨X, 8, none⟩ (.slice none 0 0)).setCell ⟨X, 9, none⟩ (.int .i64 0)).setCell ⟨X, 10, none⟩ (.int .i64 0)) = z := ⟨_, rfl⟩
            rw [hw9] at k9 b9
            have u0 : w9.cell? ⟨X, 0, none⟩ = some (.int .u8 0) := k9.cell 0
            have u1 : w9.cell? ⟨X, 1, none⟩ = some (.int .i64 0) := k9.cell 1
            have u2 : w9.cell? ⟨X, 2, none⟩ = some (.int .i64 0) := k9.cell 2
            have u3 : w9.cell? ⟨X, 3, none⟩ = some (.int .i64 0) := k9.cell 3
            have u4 : w9.cell? ⟨X, 4, none⟩ = some (.int .i64 0) := k9.cell 4
            have u5 : w9.cell? ⟨X, 5, none⟩ = some (.int .i64 0) := k9.cell 5
            have u6 : w9.cell? ⟨X, 6, none⟩ = some (.int .i64 0) := k9.cell 6
            have u7 : w9.cell? ⟨X, 7, none⟩ = some (.int .u8 0) := k9.cell 7
            have u8 : w9.cell? ⟨X, 8, none⟩ = some (.slice none 0 0) := k9.cell 8
            have u9 : w9.cell? ⟨X, 9, none⟩ = some (.int .i64 0) := k9.cell 9
            have u10 : w9.cell? ⟨X, 10, none⟩ = some (.int .i64 0) := k9.cell 10
            have HB9 := hide b9
            clear b9 k9
            go_wp2_with fail
            exact bodyPost_ret (v := .tuple #[.agg #[.int .u8 0, .int .i64 0, .int .i64 0, .int .i64 0, .int .i64 0, .int .i64 0, .int .i64 0, .int .u8 0, .slice none 0 0, .int .i64 0, .int .i64 0], .int .i64 160]) (by simp [results, Tryd.results10, go_sem, u0, u1, u2, u3, u4, u5, u6, u7, u8, u9, u10]) rfl ⟨.inl ⟨WHY.out, rfl⟩, by rw [HX.out]; exact HB9.out⟩
          have hn3 : nI = 5 := by rw [← HNI.out, hn]; rfl
          subst hn3
          subst hn
          obtain ⟨gl, hgl, _, _, _, _, _, _⟩ := own_cell HOL.out (by decide)
          subst hgl
          obtain ⟨y0, hy0⟩ : ∃ z, l.getD 0 0 = z := ⟨_, rfl⟩
          have HY0 := hide hy0
          obtain ⟨y1, hy1⟩ : ∃ z, l.getD 1 0 = z := ⟨_, rfl⟩
          have HY1 := hide hy1
          obtain ⟨y2, hy2⟩ : ∃ z, l.getD 2 0 = z := ⟨_, rfl⟩
          have HY2 := hide hy2
          obtain ⟨y3, hy3⟩ : ∃ z, l.getD 3 0 = z := ⟨_, rfl⟩
          have HY3 := hide hy3
          obtain ⟨y4, hy4⟩ : ∃ z, l.getD 4 0 = z := ⟨_, rfl⟩
          have HY4 := hide hy4
          have hDB : D < w6.heap.size := by have h1 := HPR.out.dt; have h2 := HP6.out.ht; omega
          have HLL := hide (show l.length = 5 from HFT.out.1)
          clear hy0 hy1 hy2 hy3 hy4
          have HDB := hide hDB
          clear hDB
          have n0 : wr.cell? ⟨gl, 0, none⟩ = some (.int .i64 y0) := own_i64 HOL.out (by rw [HLL.out]; decide) HLL.out HY0.out
          have z1 : wr.cell? ⟨D, 1, none⟩ = some (.int .i64 0) := HPR.out.db.cell 1
          have f1 := HPR.out.db.frozen 1
          have hq0 : PSt w T X Z0 D A cap args #[.int .u8 k, .int .i64 y0, .int .i64 0, .int .i64 0, .int .i64 0, .int .i64 0, .int .i64 0, .int .u8 op, .slice none 0 0, .int .i64 0, .int .i64 0] (wr.setCell ⟨D, 1, none⟩ (.int .i64 y0)) := (HPR.out).set 1 (.int .i64 y0)
          have hl0 := own_set_farK (p := ⟨D, 1, none⟩) (HOL.out) HDB.out (.int .i64 y0)
          obtain ⟨x0w, hw0⟩ : ∃ z, (wr.setCell ⟨D, 1, none⟩ (.int .i64 y0)) = z := ⟨_, rfl⟩
          rw [hw0] at hq0 hl0
          have HQ0 := hide hq0
          have HL0 := hide hl0
          clear hq0 hl0
          go_upto_region 28 with (fail)
          try rw [hw0]
          clear n0 z1 f1 hw0
          have n1 : x0w.cell? ⟨gl, 1, none⟩ = some (.int .i64 y1) := own_i64 HL0.out (by rw [HLL.out]; decide) HLL.out HY1.out
          have n2 : x0w.cell? ⟨gl, 2, none⟩ = some (.int .i64 y2) := own_i64 HL0.out (by rw [HLL.out]; decide) HLL.out HY2.out
          have z2 : x0w.cell? ⟨D, 2, none⟩ = some (.int .i64 0) := HQ0.out.db.cell 2
          have f2 := HQ0.out.db.frozen 2
          have z3 : x0w.cell? ⟨D, 3, none⟩ = some (.int .i64 0) := HQ0.out.db.cell 3
          have f3 := HQ0.out.db.frozen 3
          have hx0 := HQ0.out.set 2 (.int .i64 y1)
          have ho0 := own_set_farK (p := ⟨D, 2, none⟩) HL0.out HDB.out (.int .i64 y1)
          have z3_0 : (x0w.setCell ⟨D, 2, none⟩ (.int .i64 y1)).cell? ⟨D, 3, none⟩ = some (.int .i64 0) := hx0.db.cell 3
          have f3_0 := hx0.db.frozen 3
          have n0_1 : (x0w.setCell ⟨D, 2, none⟩ (.int .i64 y1)).cell? ⟨gl, 1, none⟩ = some (.int .i64 y1) := own_i64 ho0 (by rw [HLL.out]; decide) HLL.out HY1.out
          have n0_2 : (x0w.setCell ⟨D, 2, none⟩ (.int .i64 y1)).cell? ⟨gl, 2, none⟩ = some (.int .i64 y2) := own_i64 ho0 (by rw [HLL.out]; decide) HLL.out HY2.out
          have hx1 := HQ0.out.set 3 (.int .i64 y2)
          have ho1 := own_set_farK (p := ⟨D, 3, none⟩) HL0.out HDB.out (.int .i64 y2)
          have z2_1 : (x0w.setCell ⟨D, 3, none⟩ (.int .i64 y2)).cell? ⟨D, 2, none⟩ = some (.int .i64 0) := hx1.db.cell 2
          have f2_1 := hx1.db.frozen 2
          have n1_1 : (x0w.setCell ⟨D, 3, none⟩ (.int .i64 y2)).cell? ⟨gl, 1, none⟩ = some (.int .i64 y1) := own_i64 ho1 (by rw [HLL.out]; decide) HLL.out HY1.out
          have n1_2 : (x0w.setCell ⟨D, 3, none⟩ (.int .i64 y2)).cell? ⟨gl, 2, none⟩ = some (.int .i64 y2) := own_i64 ho1 (by rw [HLL.out]; decide) HLL.out HY2.out
          have hq1 : PSt w T X Z0 D A cap args #[.int .u8 k, .int .i64 y0, .int .i64 y1, .int .i64 y2, .int .i64 0, .int .i64 0, .int .i64 0, .int .u8 op, .slice none 0 0, .int .i64 0, .int .i64 0] ((x0w.setCell ⟨D, 2, none⟩ (.int .i64 y1)).setCell ⟨D, 3, none⟩ (.int .i64 y2)) := ((HQ0.out).set 2 (.int .i64 y1)).set 3 (.int .i64 y2)
          have hl1 := own_set_farK (p := ⟨D, 3, none⟩) (own_set_farK (p := ⟨D, 2, none⟩) (HL0.out) HDB.out (.int .i64 y1)) HDB.out (.int .i64 y2)
          clear hx0 ho0 hx1 ho1
          have hq1 := hq1.on (Below.refl _ _).drew
          have hl1 := own_belowR hl1 (Below.refl _ _).drew
          have HQ1 := hide hq1
          have HL1 := hide hl1
          clear hq1 hl1
          go_upto_region 30 with (fail)
          go_region
          obtain ⟨x1w, hw1⟩ : ∃ z, ((x0w.setCell ⟨D, 2, none⟩ (.int .i64 y1)).setCell ⟨D, 3, none⟩ (.int .i64 y2)).drew = z := ⟨_, rfl⟩
          rw [hw1] at HQ1 HL1 ⊢
          clear n1 n2 z2 f2 z3 f3 hw1
          clear n0_1 n0_2 n1_1 n1_2 z3_0 f3_0 z2_1 f2_1
          have n3 : x1w.cell? ⟨gl, 3, none⟩ = some (.int .i64 y3) := own_i64 HL1.out (by rw [HLL.out]; decide) HLL.out HY3.out
          have z4 : x1w.cell? ⟨D, 4, none⟩ = some (.int .i64 0) := HQ1.out.db.cell 4
          have f4 := HQ1.out.db.frozen 4
          have hq2 : PSt w T X Z0 D A cap args #[.int .u8 k, .int .i64 y0, .int .i64 y1, .int .i64 y2, .int .i64 y3, .int .i64 0, .int .i64 0, .int .u8 op, .slice none 0 0, .int .i64 0, .int .i64 0] (x1w.setCell ⟨D, 4, none⟩ (.int .i64 y3)) := (HQ1.out).set 4 (.int .i64 y3)
          have hl2 := own_set_farK (p := ⟨D, 4, none⟩) (HL1.out) HDB.out (.int .i64 y3)
          obtain ⟨x2w, hw2⟩ : ∃ z, (x1w.setCell ⟨D, 4, none⟩ (.int .i64 y3)) = z := ⟨_, rfl⟩
          rw [hw2] at hq2 hl2
          have HQ2 := hide hq2
          have HL2 := hide hl2
          clear hq2 hl2
          go_upto_region 32 with (fail)
          try rw [hw2]
          clear n3 z4 f4 hw2
          have n4 : x2w.cell? ⟨gl, 4, none⟩ = some (.int .i64 y4) := own_i64 HL2.out (by rw [HLL.out]; decide) HLL.out HY4.out
          have z5 : x2w.cell? ⟨D, 5, none⟩ = some (.int .i64 0) := HQ2.out.db.cell 5
          have f5 := HQ2.out.db.frozen 5
          have hq3 : PSt w T X Z0 D A cap args #[.int .u8 k, .int .i64 y0, .int .i64 y1, .int .i64 y2, .int .i64 y3, .int .i64 y4, .int .i64 0, .int .u8 op, .slice none 0 0, .int .i64 0, .int .i64 0] (x2w.setCell ⟨D, 5, none⟩ (.int .i64 y4)) := (HQ2.out).set 5 (.int .i64 y4)
          have hl3 := own_set_farK (p := ⟨D, 5, none⟩) (HL2.out) HDB.out (.int .i64 y4)
          obtain ⟨x3w, hw3⟩ : ∃ z, (x2w.setCell ⟨D, 5, none⟩ (.int .i64 y4)) = z := ⟨_, rfl⟩
          rw [hw3] at hq3 hl3
          have HQ3 := hide hq3
          have HL3 := hide hl3
          clear hq3 hl3
          go_wp2_with fail
          clear n4 z5 f5
          have FP : FldP w T X Z0 D A cap args k op l x3w := ⟨{ zeroC with k := k, op := op, co := y0, pe := y1, tg := y2, va := y3, sz := y4 }, none, 0, by
            have hll := HLL.out
            simp [setB, USE.out, hll, ← HY0.out, ← HY1.out, ← HY2.out, ← HY3.out, ← HY4.out], HQ3.out, ⟨rfl, .inl ⟨rfl, rfl⟩⟩⟩
          refine Met.intro ?_
          go_step
          (repeat apply Exists.intro)
          refine And.intro ?relm4 ?frm4
          case frm4 => with_reducible rfl
          exact FP
        · have USE := hide e
          have eU : U.toList = [99, 112, 116] := by rw [← HU.out, hu, ByteArray.toList_eq]
          have hb1 : bl = false := by rw [← HBL.out, eU]; decide
          subst hb1
          have ea : (argsOf k).1 = 3 := by rw [args_least HKC.out (by rw [e]; decide), e]; decide
          obtain ⟨a2, ha2⟩ : ∃ z, (argsOf k).2 = z := ⟨_, rfl⟩
          have AB := hide (args_b k wr)
          rw [ea, ha2] at AB
          clear e hu ea ha2
          go_wp2_with fail
          refine AB.out.mono ?_
          rintro e wrc ⟨rfl, hwrc⟩
          obtain rfl : wr = wrc := hwrc
          by_cases hn : n2 = 3
          rotate_left
          · have hnI : ¬ (n2 : Int) = 3 := by omega
            have hsn : setB k op l = none := by
              have hll := HFT.out.1
              simp [setB, USE.out, hll, hn]
            have WHY : Hid (ParsedAs s none) := hide (parsedB_no (by rw [RDS.out, hsn]))
            clear hsn hn
            have q0 : wr.cell? ⟨Z0, 0, none⟩ = some (.int .u8 0) := HPR.out.zb.cell 0
            have q1 : wr.cell? ⟨Z0, 1, none⟩ = some (.int .i64 0) := HPR.out.zb.cell 1
            have q2 : wr.cell? ⟨Z0, 2, none⟩ = some (.int .i64 0) := HPR.out.zb.cell 2
            have q3 : wr.cell? ⟨Z0, 3, none⟩ = some (.int .i64 0) := HPR.out.zb.cell 3
            have q4 : wr.cell? ⟨Z0, 4, none⟩ = some (.int .i64 0) := HPR.out.zb.cell 4
            have q5 : wr.cell? ⟨Z0, 5, none⟩ = some (.int .i64 0) := HPR.out.zb.cell 5
            have q6 : wr.cell? ⟨Z0, 6, none⟩ = some (.int .i64 0) := HPR.out.zb.cell 6
            have q7 : wr.cell? ⟨Z0, 7, none⟩ = some (.int .u8 0) := HPR.out.zb.cell 7
            have q8 : wr.cell? ⟨Z0, 8, none⟩ = some (.slice none 0 0) := HPR.out.zb.cell 8
            have q9 : wr.cell? ⟨Z0, 9, none⟩ = some (.int .i64 0) := HPR.out.zb.cell 9
            have q10 : wr.cell? ⟨Z0, 10, none⟩ = some (.int .i64 0) := HPR.out.zb.cell 10
            have kz := HPR.out.xb
            have bz := HPR.out.low
            have z0 : wr.cell? ⟨X, 0, none⟩ = some (.int .u8 0) := kz.cell 0
            have z1 : wr.cell? ⟨X, 1, none⟩ = some (.int .i64 0) := kz.cell 1
            have z2 : wr.cell? ⟨X, 2, none⟩ = some (.int .i64 0) := kz.cell 2
            have z3 : wr.cell? ⟨X, 3, none⟩ = some (.int .i64 0) := kz.cell 3
            have z4 : wr.cell? ⟨X, 4, none⟩ = some (.int .i64 0) := kz.cell 4
            have z5 : wr.cell? ⟨X, 5, none⟩ = some (.int .i64 0) := kz.cell 5
            have z6 : wr.cell? ⟨X, 6, none⟩ = some (.int .i64 0) := kz.cell 6
            have z7 : wr.cell? ⟨X, 7, none⟩ = some (.int .u8 0) := kz.cell 7
            have z8 : wr.cell? ⟨X, 8, none⟩ = some (.slice none 0 0) := kz.cell 8
            have z9 : wr.cell? ⟨X, 9, none⟩ = some (.int .i64 0) := kz.cell 9
            have z10 : wr.cell? ⟨X, 10, none⟩ = some (.int .i64 0) := kz.cell 10
            have f0 := kz.frozen 0
            have f1 := kz.frozen 1
            have f2 := kz.frozen 2
            have f3 := kz.frozen 3
            have f4 := kz.frozen 4
            have f5 := kz.frozen 5
            have f6 := kz.frozen 6
            have f7 := kz.frozen 7
            have f8 := kz.frozen 8
            have f9 := kz.frozen 9
            have f10 := kz.frozen 10
            have k9 := put11 kz (.int .u8 0) (.int .i64 0) (.int .i64 0) (.int .i64 0) (.int .i64 0) (.int .i64 0) (.int .i64 0) (.int .u8 0) (.slice none 0 0) (.int .i64 0) (.int .i64 0)
            have b9 := bel11 bz (.int .u8 0) (.int .i64 0) (.int .i64 0) (.int .i64 0) (.int .i64 0) (.int .i64 0) (.int .i64 0) (.int .u8 0) (.slice none 0 0) (.int .i64 0) (.int .i64 0)
            obtain ⟨w9, hw9⟩ : ∃ z, (((((((((((wr.setCell ⟨X, 0, none⟩ (.int .u8 0)).setCell ⟨X, 1, none⟩ (.int .i64 0)).setCell ⟨X, 2, none⟩ (.int .i64 0)).setCell ⟨X, 3, none⟩ (.int .i64 0)).setCell ⟨X, 4, none⟩ (.int .i64 0)).setCell ⟨X, 5, none⟩ (.int .i64 0)).setCell ⟨X, 6, none⟩ (.int .i64 0)).setCell ⟨X, 7, none⟩ (.int .u8 0)).setCell ⟨X, 8, none⟩ (.slice none 0 0)).setCell ⟨X, 9, none⟩ (.int .i64 0)).setCell ⟨X, 10, none⟩ (.int .i64 0)) = z := ⟨_, rfl⟩
            rw [hw9] at k9 b9
            have u0 : w9.cell? ⟨X, 0, none⟩ = some (.int .u8 0) := k9.cell 0
            have u1 : w9.cell? ⟨X, 1, none⟩ = some (.int .i64 0) := k9.cell 1
            have u2 : w9.cell? ⟨X, 2, none⟩ = some (.int .i64 0) := k9.cell 2
            have u3 : w9.cell? ⟨X, 3, none⟩ = some (.int .i64 0) := k9.cell 3
            have u4 : w9.cell? ⟨X, 4, none⟩ = some (.int .i64 0) := k9.cell 4
            have u5 : w9.cell? ⟨X, 5, none⟩ = some (.int .i64 0) := k9.cell 5
            have u6 : w9.cell? ⟨X, 6, none⟩ = some (.int .i64 0) := k9.cell 6
            have u7 : w9.cell? ⟨X, 7, none⟩ = some (.int .u8 0) := k9.cell 7
            have u8 : w9.cell? ⟨X, 8, none⟩ = some (.slice none 0 0) := k9.cell 8
            have u9 : w9.cell? ⟨X, 9, none⟩ = some (.int .i64 0) := k9.cell 9
            have u10 : w9.cell? ⟨X, 10, none⟩ = some (.int .i64 0) := k9.cell 10
            have HB9 := hide b9
            clear b9 k9
            go_wp2_with fail
            exact bodyPost_ret (v := .tuple #[.agg #[.int .u8 0, .int .i64 0, .int .i64 0, .int .i64 0, .int .i64 0, .int .i64 0, .int .i64 0, .int .u8 0, .slice none 0 0, .int .i64 0, .int .i64 0], .int .i64 160]) (by simp [results, Tryd.results10, go_sem, u0, u1, u2, u3, u4, u5, u6, u7, u8, u9, u10]) rfl ⟨.inl ⟨WHY.out, rfl⟩, by rw [HX.out]; exact HB9.out⟩
          have hn3 : nI = 3 := by rw [← HNI.out, hn]; rfl
          subst hn3
          subst hn
          obtain ⟨gl, hgl, _, _, _, _, _, _⟩ := own_cell HOL.out (by decide)
          subst hgl
          obtain ⟨y0, hy0⟩ : ∃ z, l.getD 0 0 = z := ⟨_, rfl⟩
          have HY0 := hide hy0
          obtain ⟨y1, hy1⟩ : ∃ z, l.getD 1 0 = z := ⟨_, rfl⟩
          have HY1 := hide hy1
          obtain ⟨y2, hy2⟩ : ∃ z, l.getD 2 0 = z := ⟨_, rfl⟩
          have HY2 := hide hy2
          have hDB : D < w6.heap.size := by have h1 := HPR.out.dt; have h2 := HP6.out.ht; omega
          have HLL := hide (show l.length = 3 from HFT.out.1)
          clear hy0 hy1 hy2
          have HDB := hide hDB
          clear hDB
          have n0 : wr.cell? ⟨gl, 0, none⟩ = some (.int .i64 y0) := own_i64 HOL.out (by rw [HLL.out]; decide) HLL.out HY0.out
          have z1 : wr.cell? ⟨D, 1, none⟩ = some (.int .i64 0) := HPR.out.db.cell 1
          have f1 := HPR.out.db.frozen 1
          have hq0 : PSt w T X Z0 D A cap args #[.int .u8 k, .int .i64 y0, .int .i64 0, .int .i64 0, .int .i64 0, .int .i64 0, .int .i64 0, .int .u8 op, .slice none 0 0, .int .i64 0, .int .i64 0] (wr.setCell ⟨D, 1, none⟩ (.int .i64 y0)) := (HPR.out).set 1 (.int .i64 y0)
          have hl0 := own_set_farK (p := ⟨D, 1, none⟩) (HOL.out) HDB.out (.int .i64 y0)
          obtain ⟨x0w, hw0⟩ : ∃ z, (wr.setCell ⟨D, 1, none⟩ (.int .i64 y0)) = z := ⟨_, rfl⟩
          rw [hw0] at hq0 hl0
          have HQ0 := hide hq0
          have HL0 := hide hl0
          clear hq0 hl0
          go_upto_region 28 with (fail)
          try rw [hw0]
          clear n0 z1 f1 hw0
          have n1 : x0w.cell? ⟨gl, 1, none⟩ = some (.int .i64 y1) := own_i64 HL0.out (by rw [HLL.out]; decide) HLL.out HY1.out
          have n2 : x0w.cell? ⟨gl, 2, none⟩ = some (.int .i64 y2) := own_i64 HL0.out (by rw [HLL.out]; decide) HLL.out HY2.out
          have z2 : x0w.cell? ⟨D, 2, none⟩ = some (.int .i64 0) := HQ0.out.db.cell 2
          have f2 := HQ0.out.db.frozen 2
          have z3 : x0w.cell? ⟨D, 3, none⟩ = some (.int .i64 0) := HQ0.out.db.cell 3
          have f3 := HQ0.out.db.frozen 3
          have hx0 := HQ0.out.set 2 (.int .i64 y1)
          have ho0 := own_set_farK (p := ⟨D, 2, none⟩) HL0.out HDB.out (.int .i64 y1)
          have z3_0 : (x0w.setCell ⟨D, 2, none⟩ (.int .i64 y1)).cell? ⟨D, 3, none⟩ = some (.int .i64 0) := hx0.db.cell 3
          have f3_0 := hx0.db.frozen 3
          have n0_1 : (x0w.setCell ⟨D, 2, none⟩ (.int .i64 y1)).cell? ⟨gl, 1, none⟩ = some (.int .i64 y1) := own_i64 ho0 (by rw [HLL.out]; decide) HLL.out HY1.out
          have n0_2 : (x0w.setCell ⟨D, 2, none⟩ (.int .i64 y1)).cell? ⟨gl, 2, none⟩ = some (.int .i64 y2) := own_i64 ho0 (by rw [HLL.out]; decide) HLL.out HY2.out
          have hx1 := HQ0.out.set 3 (.int .i64 y2)
          have ho1 := own_set_farK (p := ⟨D, 3, none⟩) HL0.out HDB.out (.int .i64 y2)
          have z2_1 : (x0w.setCell ⟨D, 3, none⟩ (.int .i64 y2)).cell? ⟨D, 2, none⟩ = some (.int .i64 0) := hx1.db.cell 2
          have f2_1 := hx1.db.frozen 2
          have n1_1 : (x0w.setCell ⟨D, 3, none⟩ (.int .i64 y2)).cell? ⟨gl, 1, none⟩ = some (.int .i64 y1) := own_i64 ho1 (by rw [HLL.out]; decide) HLL.out HY1.out
          have n1_2 : (x0w.setCell ⟨D, 3, none⟩ (.int .i64 y2)).cell? ⟨gl, 2, none⟩ = some (.int .i64 y2) := own_i64 ho1 (by rw [HLL.out]; decide) HLL.out HY2.out
          have hq1 : PSt w T X Z0 D A cap args #[.int .u8 k, .int .i64 y0, .int .i64 y1, .int .i64 y2, .int .i64 0, .int .i64 0, .int .i64 0, .int .u8 op, .slice none 0 0, .int .i64 0, .int .i64 0] ((x0w.setCell ⟨D, 2, none⟩ (.int .i64 y1)).setCell ⟨D, 3, none⟩ (.int .i64 y2)) := ((HQ0.out).set 2 (.int .i64 y1)).set 3 (.int .i64 y2)
          have hl1 := own_set_farK (p := ⟨D, 3, none⟩) (own_set_farK (p := ⟨D, 2, none⟩) (HL0.out) HDB.out (.int .i64 y1)) HDB.out (.int .i64 y2)
          clear hx0 ho0 hx1 ho1
          have hq1 := hq1.on (Below.refl _ _).drew
          have hl1 := own_belowR hl1 (Below.refl _ _).drew
          have HQ1 := hide hq1
          have HL1 := hide hl1
          clear hq1 hl1
          go_upto_region 34 with (fail)
          go_region
          obtain ⟨x1w, hw1⟩ : ∃ z, ((x0w.setCell ⟨D, 2, none⟩ (.int .i64 y1)).setCell ⟨D, 3, none⟩ (.int .i64 y2)).drew = z := ⟨_, rfl⟩
          rw [hw1] at HQ1 HL1 ⊢
          clear n1 n2 z2 f2 z3 f3 hw1
          clear n0_1 n0_2 n1_1 n1_2 z3_0 f3_0 z2_1 f2_1
          go_wp2_with fail
          have FP : FldP w T X Z0 D A cap args k op l x1w := ⟨{ zeroC with k := k, op := op, co := y0, pe := y1, tg := y2 }, none, 0, by
            have hll := HLL.out
            simp [setB, USE.out, hll, ← HY0.out, ← HY1.out, ← HY2.out], HQ1.out, ⟨rfl, .inl ⟨rfl, rfl⟩⟩⟩
          refine Met.intro ?_
          go_step
          (repeat apply Exists.intro)
          refine And.intro ?relm5 ?frm5
          case frm5 => with_reducible rfl
          exact FP
        · have USE := hide e
          have eU : U.toList = [108] := by rw [← HU.out, hu, ByteArray.toList_eq]
          have hb1 : bl = true := by rw [← HBL.out, eU]; decide
          subst hb1
          clear e hu
          have OLT := hide (fun a (ha : Al = some a) => (own_lt HOL.out a ha).2)
          have HWW := hide (show wr.heap.size ≤ wr.heap.size from Nat.le_refl _)
          have OI0 := hide (show wr.ownsRow wr.heap.size 3 1 (.slice none 0 0) 0 (i64s (l.take 0)) from ⟨rfl, .inl ⟨rfl, rfl⟩⟩)
          go_wp2_with fail
          go_loopw [14] (fun v14 wx => ∃ (j : Nat) (Ar : Option Addr) (cr : Nat), j ≤ n2 ∧ v14 = .int .i64 j ∧ Hid (PSt w T X Z0 D A cap args #[.int .u8 k, .int .i64 0, .int .i64 0, .int .i64 0, .int .i64 0, .int .i64 0, .int .i64 0, .int .u8 op, .slice Ar j cr, .int .i64 0, .int .i64 0] wx) ∧ Hid (wx.ownsRow wr.heap.size 3 1 (.slice Ar j cr) j (i64s (l.take j))) ∧ Hid (Below wr.heap.size wr (wx.setCell ⟨D, 8, none⟩ (.slice none 0 0)) ∨ True) ∧ Hid (wx.ownsRow w6.heap.size 2 1 (.slice Al n2 cl) n2 (i64s l)) ∧ Hid (wr.heap.size ≤ wx.heap.size)) (fun v14 _ => n2 - (RowKit.intOf v14).toNat)
          case atStart => exact ⟨0, none, 0, Nat.zero_le _, rfl, HPR, OI0, hide (.inr trivial), HOL, HWW⟩
          case round =>
            obtain ⟨j, Ar, cr, hj, rfl, HPX, HOI, _, HOX, HWX⟩ := hrel
            rename World => wx
            by_cases hlt : j < n2
            rotate_left
            · have hltI : ¬ (j : Int) < (n2 : Int) := by omega
              obtain rfl : n2 = j := by omega
              have FP : FldP w T X Z0 D A cap args k op l wx := ⟨{ zeroC with k := k, op := op, rq := l }, Ar, cr, by simp [setB, USE.out], by
                show PSt w T X Z0 D A cap args #[.int .u8 k, .int .i64 0, .int .i64 0, .int .i64 0, .int .i64 0, .int .i64 0, .int .i64 0, .int .u8 op, .slice Ar l.length cr, .int .i64 0, .int .i64 0] wx
                rw [HFT.out.1]
                exact HPX.out, by
                show wx.ownsRow T 3 1 (.slice Ar l.length cr) l.length (i64s l)
                have h1 := HOI.out
                rw [← HFT.out.1, List.take_length] at h1
                exact own_wide h1 HPR.out.ht⟩
              go_wp2_with fail
              refine Met.intro ?_
              go_step
              (repeat apply Exists.intro)
              refine And.intro ?relm6 ?frm6
              case frm6 => with_reducible rfl
              exact FP
            have hltI : (j : Int) < (n2 : Int) := by omega
            obtain ⟨gl, hgl, _, _, _, _, _, _⟩ := own_cell HOX.out (by omega)
            subst hgl
            obtain ⟨x, hx⟩ : ∃ z, l.getD j 0 = z := ⟨_, rfl⟩
            obtain ⟨row, hrow⟩ : ∃ z, (Value.slice Ar j cr).ownBlock = z := ⟨_, rfl⟩
            have HROW := hide hrow
            have HRL := hide (fun g (hg : row = some g) => show wr.heap.size ≤ g ∧ g < wx.heap.size by
              have := own_block HOI.out (g := g) (hrow.trans hg)
              exact ⟨this.1, this.2.1⟩)
            have HPG := hide (fun (w1 : World) (hk : wx.grownBy w1 row) => HPX.out.grow hk fun g hg => Nat.le_trans HPR.out.ht (HRL.out g hg).1)
            have hne : (Value.slice (some ⟨gl, 0, none⟩) n2 cl).ownBlock = none ∨ (Value.slice (some ⟨gl, 0, none⟩) n2 cl).ownBlock ≠ row := .inr fun e => by
              have h1 := (HRL.out gl e.symm).1
              have h2 := OLT.out _ rfl
              exact absurd h2 (by show ¬ gl < wr.heap.size; omega)
            have HLO := hide (fun (w1 : World) (hk : wx.grownBy w1 row) => HOX.out.kept hk hne)
            have HLG := hide (fun (w1 : World) (hk : wx.grownBy w1 row) => own_i64 (HLO.out w1 hk) (by rw [HFT.out.1]; exact hlt) HFT.out.1 hx)
            have HJB := hide (show j ≤ 1000 by have := HNB.out; omega)
            have HLT := hide hlt
            have HXJ := hide (show l.take (j + 1) = l.take j ++ [x] by
              have h1 := HFT.out.1
              rw [List.take_succ_eq_append_getElem (by omega), ← hx, List.getD_eq_getElem?_getD, List.getElem?_eq_getElem (by omega)]
              rfl)
            clear hrow hne hx hlt hltI hj
            go_upto_region 23 with (fail)
            let R : Nat → Value → World → Prop := fun sl u w1 => match sl with
              | 96 => u = .pointer (some ⟨D, 8, none⟩)
              | 97 => u = .slice Ar j cr
              | 98 => u = .slice (some ⟨gl, 0, none⟩) n2 cl
              | 99 => u = .int .i64 j
              | 100 => u = .pointer (some ⟨gl, j, none⟩)
              | 101 => u = .int .i64 x
              | 102 => ∃ b, u = .slice (some ⟨b, 0, none⟩) 1 1 ∧ wx.heap.size ≤ b ∧ Blk w1 b 3 #[.int .i64 x]
              | 104 => u = .pointer (some ⟨D, 8, none⟩)
              | _ => True
            let K : World → World → Prop := fun a b => a.grownBy b row
            let J : Option Value → World → Prop := fun b w1 => match b with
              | none => w1.ownsRow wr.heap.size 3 1 (.slice Ar j cr) j (i64s (l.take j))
              | some u => w1.ownsRow wr.heap.size 3 1 u (j + 1) (i64s (l.take j) ++ [.int .i64 x])
            have hKB : ∀ x y, Below x.heap.size x y → K x y := fun _ _ hb => grown_of_below hb
            have hJB : ∀ b x y, J b x → Below x.heap.size x y → J b y := fun b x y hj hb => by
              cases b with
              | none => exact own_belowR hj hb
              | some u => exact own_belowR hj hb
            refine wp_region_relJ 9 103 R K J (by kernel_rfl) (by kernel_rfl) (by kernel_rfl) (by kernel_rfl) (by kernel_rfl) (fun _ _ _ h1 h2 => gtrans h1 h2) (hKB _ _ (Below.refl _ _).drew) HOI.out.drew ?mono ?step ?fin
            case mono =>
              intro sl u wx wy h hk
              match sl with
              | 102 =>
                obtain ⟨b, h1, h2, h3⟩ := h
                refine ⟨b, h1, h2, h3.grown hk fun e => ?_⟩
                have := HRL.out b e.symm
                omega
              | 0 | 1 | 2 | 3 | 4 | 5 | 6 | 7 | 8 | 9 | 10 | 11 | 12 | 13 | 14 | 15 | 16 | 17 | 18 | 19 | 20 | 21 | 22 | 23 | 24 | 25 | 26 | 27 | 28 | 29 | 30 | 31 | 32 | 33 | 34 | 35 | 36 | 37 | 38 | 39 | 40 | 41 | 42 | 43 | 44 | 45 | 46 | 47 | 48 | 49 | 50 | 51 | 52 | 53 | 54 | 55 | 56 | 57 | 58 | 59 | 60 | 61 | 62 | 63 | 64 | 65 | 66 | 67 | 68 | 69 | 70 | 71 | 72 | 73 | 74 | 75 | 76 | 77 | 78 | 79 | 80 | 81 | 82 | 83 | 84 | 85 | 86 | 87 | 88 | 89 | 90 | 91 | 92 | 93 | 94 | 95 | 96 | 97 | 98 | 99 | 100 | 101 | 103 | 104 | _ + 105 => exact h
            case step =>
              intro op hop
              simp only [List.take, List.mem_cons, List.not_mem_nil, or_false] at hop
              rcases hop with rfl | rfl | rfl | rfl | rfl | rfl | rfl | rfl | rfl
              · refine ⟨fun h => absurd h (by decide), fun _ b => stepJ_of hKB hJB fun a w1 hk hj hsm hr => ?_⟩
                have e8 : a.tmps.getD 8 undef = .pointer (some ⟨D, 0, none⟩) := hsm 8 (by decide)
                rw [Array.getD_eq_getD_getElem?] at e8
                unfold Oper.wp
                simp only [execOp, Act.eval, Array.getD_eq_getD_getElem?, e8]
                go_simp
                first | exact ⟨_, rfl, rfl, Below.refl _ _⟩ | exact ⟨_, rfl, trivial, Below.refl _ _⟩ | exact ⟨_, rfl, Below.refl _ _⟩
              · refine ⟨fun h => absurd h (by decide), fun _ b => stepJ_of hKB hJB fun a w1 hk hj hsm hr => ?_⟩
                have e96 : a.tmps.getD 96 undef = .pointer (some ⟨D, 8, none⟩) := hr 96 (by decide) (by apply Array.mem_toList_iff.1; repeat (first | exact List.Mem.head _ | apply List.Mem.tail))
                have cc8 : w1.cell? ⟨D, 8, none⟩ = some (.slice Ar j cr) := (HPG.out w1 hk).db.cell 8
                rw [Array.getD_eq_getD_getElem?] at e96
                unfold Oper.wp
                simp only [execOp, Act.eval, Array.getD_eq_getD_getElem?, e96]
                go_simp
                first | exact ⟨_, rfl, rfl, Below.refl _ _⟩ | exact ⟨_, rfl, trivial, Below.refl _ _⟩ | exact ⟨_, rfl, Below.refl _ _⟩
              · refine ⟨fun h => absurd h (by decide), fun _ b => stepJ_of hKB hJB fun a w1 hk hj hsm hr => ?_⟩
                have e9 : a.tmps.getD 9 undef = .slice (some ⟨gl, 0, none⟩) n2 cl := hsm 9 (by decide)
                rw [Array.getD_eq_getD_getElem?] at e9
                unfold Oper.wp
                simp only [execOp, Act.eval, Array.getD_eq_getD_getElem?, e9]
                go_simp
                first | exact ⟨_, rfl, rfl, Below.refl _ _⟩ | exact ⟨_, rfl, trivial, Below.refl _ _⟩ | exact ⟨_, rfl, Below.refl _ _⟩
              · refine ⟨fun h => absurd h (by decide), fun _ b => stepJ_of hKB hJB fun a w1 hk hj hsm hr => ?_⟩
                have e14 : a.tmps.getD 14 undef = .int .i64 j := hsm 14 (by decide)
                rw [Array.getD_eq_getD_getElem?] at e14
                unfold Oper.wp
                simp only [execOp, Act.eval, Array.getD_eq_getD_getElem?, e14]
                go_simp
                first | exact ⟨_, rfl, rfl, Below.refl _ _⟩ | exact ⟨_, rfl, trivial, Below.refl _ _⟩ | exact ⟨_, rfl, Below.refl _ _⟩
              · refine ⟨fun h => absurd h (by decide), fun _ b => stepJ_of hKB hJB fun a w1 hk hj hsm hr => ?_⟩
                have e98 : a.tmps.getD 98 undef = .slice (some ⟨gl, 0, none⟩) n2 cl := hr 98 (by decide) (by apply Array.mem_toList_iff.1; repeat (first | exact List.Mem.head _ | apply List.Mem.tail))
                have e99 : a.tmps.getD 99 undef = .int .i64 j := hr 99 (by decide) (by apply Array.mem_toList_iff.1; repeat (first | exact List.Mem.head _ | apply List.Mem.tail))
                rw [Array.getD_eq_getD_getElem?] at e98
                rw [Array.getD_eq_getD_getElem?] at e99
                unfold Oper.wp
                simp only [execOp, Act.eval, Array.getD_eq_getD_getElem?, e98, e99]
                go_simp
                first | exact ⟨_, rfl, rfl, Below.refl _ _⟩ | exact ⟨_, rfl, trivial, Below.refl _ _⟩ | exact ⟨_, rfl, Below.refl _ _⟩
              · refine ⟨fun h => absurd h (by decide), fun _ b => stepJ_of hKB hJB fun a w1 hk hj hsm hr => ?_⟩
                have e100 : a.tmps.getD 100 undef = .pointer (some ⟨gl, j, none⟩) := hr 100 (by decide) (by apply Array.mem_toList_iff.1; repeat (first | exact List.Mem.head _ | apply List.Mem.tail))
                have ccl : w1.cell? ⟨gl, j, none⟩ = some (.int .i64 x) := HLG.out w1 hk
                rw [Array.getD_eq_getD_getElem?] at e100
                unfold Oper.wp
                simp only [execOp, Act.eval, Array.getD_eq_getD_getElem?, e100]
                go_simp
                first | exact ⟨_, rfl, rfl, Below.refl _ _⟩ | exact ⟨_, rfl, trivial, Below.refl _ _⟩ | exact ⟨_, rfl, Below.refl _ _⟩
              · refine ⟨fun h => absurd h (by decide), fun _ b => stepJ_of hKB hJB fun a w1 hk hj hsm hr => ?_⟩
                have e101 : a.tmps.getD 101 undef = .int .i64 x := hr 101 (by decide) (by apply Array.mem_toList_iff.1; repeat (first | exact List.Mem.head _ | apply List.Mem.tail))
                have hsz := hk.size
                rw [Array.getD_eq_getD_getElem?] at e101
                unfold Oper.wp
                simp only [execOp, Act.eval, Array.getD_eq_getD_getElem?, e101]
                go_simp
                exact ⟨_, rfl, ⟨w1.heap.size, rfl, hsz, Blk.new w1 3 _⟩, (Below.refl _ _).alloc (Nat.le_refl _) _⟩
              · refine ⟨fun _ a w1 hk hj hsm hr => ?_, fun h => absurd rfl h⟩
                have e97 : a.tmps.getD 97 undef = .slice Ar j cr := hr 97 (by decide) (by apply Array.mem_toList_iff.1; repeat (first | exact List.Mem.head _ | apply List.Mem.tail))
                have r102 := hr 102 (by decide) (by apply Array.mem_toList_iff.1; repeat (first | exact List.Mem.head _ | apply List.Mem.tail))
                obtain ⟨b, e102, hb, hbb⟩ := r102
                have hj : w1.ownsRow wr.heap.size 3 1 (.slice Ar j cr) j (i64s (l.take j)) := hj
                have hrd : Reads w1 w1.heap.size 1 (some ⟨b, 0, none⟩) 1 [.int .i64 x] := ⟨rfl, fun _ => ⟨_, rfl, hbb.lt, fun j u hu => by rw [add_lit, hbb.cell]; simpa using hu⟩⟩
                obtain ⟨i0, hi0, hz0, hz1, hz2⟩ := info_parts int_info64
                obtain ⟨v', w'', hrun, hown', hgb, _⟩ := run_append_any (P := Tryd.prog) w1 wr.heap.size 22 22 3 i0 _ 1 8 Tryd.underlying22 hi0 hz0 hz1 hz2 (by rfl) (by omega) _ _ _ hj w1.heap.size (some ⟨b, 0, none⟩) 1 1 _ hrd (by intro u hu; rw [List.mem_singleton.1 hu]; rfl) (by have := HJB.out; unfold maxLen; omega) (by have := HJB.out; omega) (Nat.le_trans HWX.out hk.size)
                rw [HROW.out] at hgb
                exact Lib.wp_append_run w1 (.tmp 97) (.tmp 102) 22 22 rfl _ _ e97 e102 v' w'' hrun ⟨v', rfl, fun t ht => by cases ht; exact True.intro, hgb, hown'⟩
              · refine ⟨fun h => absurd h (by decide), fun _ b => stepJ_of hKB hJB fun a w1 hk hj hsm hr => ?_⟩
                have e8 : a.tmps.getD 8 undef = .pointer (some ⟨D, 0, none⟩) := hsm 8 (by decide)
                rw [Array.getD_eq_getD_getElem?] at e8
                unfold Oper.wp
                simp only [execOp, Act.eval, Array.getD_eq_getD_getElem?, e8]
                go_simp
                first | exact ⟨_, rfl, rfl, Below.refl _ _⟩ | exact ⟨_, rfl, trivial, Below.refl _ _⟩ | exact ⟨_, rfl, Below.refl _ _⟩
            case fin =>
              intro ff w9 hk hj hr
              have hown : w9.ownsRow wr.heap.size 3 1 (ff 103) (j + 1) (i64s (l.take j) ++ [.int .i64 x]) := hj
              have e104 : ff 104 = .pointer (some ⟨D, 8, none⟩) := hr 104 (by decide)
              obtain ⟨a9, c9, e103⟩ := own_form hown
              rw [e103] at hown
              have hp9 := HPG.out w9 hk
              have hl9 := HLO.out w9 hk
              have z8 : w9.cell? ⟨D, 8, none⟩ = some (.slice Ar j cr) := hp9.db.cell 8
              have f8 := hp9.db.frozen 8
              have h9 : wr.heap.size ≤ w9.heap.size := Nat.le_trans HWX.out hk.size
              have hDw : D < wr.heap.size := Nat.lt_of_lt_of_le HPR.out.dt HPR.out.ht
              have hD6 : D < w6.heap.size := Nat.lt_of_lt_of_le HPR.out.dt HP6.out.ht
              have HPZ : Hid (PSt w T X Z0 D A cap args #[.int .u8 k, .int .i64 0, .int .i64 0, .int .i64 0, .int .i64 0, .int .i64 0, .int .i64 0, .int .u8 op, .slice a9 (j + 1) c9, .int .i64 0, .int .i64 0] (w9.setCell ⟨D, 8, none⟩ (.slice a9 (j + 1) c9))) := hide (hp9.set 8 (.slice a9 (j + 1) c9))
              have HOZ : Hid ((w9.setCell ⟨D, 8, none⟩ (.slice a9 (j + 1) c9)).ownsRow wr.heap.size 3 1 (.slice a9 (j + 1) c9) (j + 1) (i64s (l.take (j + 1)))) := hide (by
                rw [HXJ.out, i64s_app]
                exact own_set_farK (p := ⟨D, 8, none⟩) hown hDw (.slice a9 (j + 1) c9))
              have HLZ := hide (own_set_farK (p := ⟨D, 8, none⟩) hl9 hD6 (.slice a9 (j + 1) c9))
              have H9 : Hid (wr.heap.size ≤ (w9.setCell ⟨D, 8, none⟩ (.slice a9 (j + 1) c9)).heap.size) := hide (by simpa [World.setCell] using h9)
              clear hr hj hown hk hKB hJB hp9 hl9 h9 hDw hD6
              have hjb := HJB.out
              have hlt := HLT.out
              simp only [putAll, slotsOf, List.take, List.drop, List.filterMap_cons, List.filterMap_nil, List.foldl_cons, List.foldl_nil, Act.put, e103, e104]
              simp only [List.setIfInBounds_toArray, List.set_cons_succ, List.set_cons_zero]
              go_wp2_with fail
              go_roundw
              case rel => exact ⟨j + 1, a9, c9, HLT.out, by go_num, HPZ, HOZ, hide (.inr trivial), HLZ, H9⟩
              case measure => have := HLT.out; simp [RowKit.intOf] <;> omega
        · have USE := hide e
          have eU : U.toList = [99] := by rw [← HU.out, hu, ByteArray.toList_eq]
          have hb1 : bl = false := by rw [← HBL.out, eU]; decide
          subst hb1
          have ea : (argsOf k).1 = 1 := by rw [args_least HKC.out (by rw [e]; decide), e]; decide
          obtain ⟨a2, ha2⟩ : ∃ z, (argsOf k).2 = z := ⟨_, rfl⟩
          have AB := hide (args_b k wr)
          rw [ea, ha2] at AB
          clear e hu ea ha2
          go_wp2_with fail
          refine AB.out.mono ?_
          rintro e wrc ⟨rfl, hwrc⟩
          obtain rfl : wr = wrc := hwrc
          by_cases hn : n2 = 1
          rotate_left
          · have hnI : ¬ (n2 : Int) = 1 := by omega
            have hsn : setB k op l = none := by
              have hll := HFT.out.1
              simp [setB, USE.out, hll, hn]
            have WHY : Hid (ParsedAs s none) := hide (parsedB_no (by rw [RDS.out, hsn]))
            clear hsn hn
            have q0 : wr.cell? ⟨Z0, 0, none⟩ = some (.int .u8 0) := HPR.out.zb.cell 0
            have q1 : wr.cell? ⟨Z0, 1, none⟩ = some (.int .i64 0) := HPR.out.zb.cell 1
            have q2 : wr.cell? ⟨Z0, 2, none⟩ = some (.int .i64 0) := HPR.out.zb.cell 2
            have q3 : wr.cell? ⟨Z0, 3, none⟩ = some (.int .i64 0) := HPR.out.zb.cell 3
            have q4 : wr.cell? ⟨Z0, 4, none⟩ = some (.int .i64 0) := HPR.out.zb.cell 4
            have q5 : wr.cell? ⟨Z0, 5, none⟩ = some (.int .i64 0) := HPR.out.zb.cell 5
            have q6 : wr.cell? ⟨Z0, 6, none⟩ = some (.int .i64 0) := HPR.out.zb.cell 6
            have q7 : wr.cell? ⟨Z0, 7, none⟩ = some (.int .u8 0) := HPR.out.zb.cell 7
            have q8 : wr.cell? ⟨Z0, 8, none⟩ = some (.slice none 0 0) := HPR.out.zb.cell 8
            have q9 : wr.cell? ⟨Z0, 9, none⟩ = some (.int .i64 0) := HPR.out.zb.cell 9
            have q10 : wr.cell? ⟨Z0, 10, none⟩ = some (.int .i64 0) := HPR.out.zb.cell 10
            have kz := HPR.out.xb
            have bz := HPR.out.low
            have z0 : wr.cell? ⟨X, 0, none⟩ = some (.int .u8 0) := kz.cell 0
            have z1 : wr.cell? ⟨X, 1, none⟩ = some (.int .i64 0) := kz.cell 1
            have z2 : wr.cell? ⟨X, 2, none⟩ = some (.int .i64 0) := kz.cell 2
            have z3 : wr.cell? ⟨X, 3, none⟩ = some (.int .i64 0) := kz.cell 3
            have z4 : wr.cell? ⟨X, 4, none⟩ = some (.int .i64 0) := kz.cell 4
            have z5 : wr.cell? ⟨X, 5, none⟩ = some (.int .i64 0) := kz.cell 5
            have z6 : wr.cell? ⟨X, 6, none⟩ = some (.int .i64 0) := kz.cell 6
            have z7 : wr.cell? ⟨X, 7, none⟩ = some (.int .u8 0) := kz.cell 7
            have z8 : wr.cell? ⟨X, 8, none⟩ = some (.slice none 0 0) := kz.cell 8
            have z9 : wr.cell? ⟨X, 9, none⟩ = some (.int .i64 0) := kz.cell 9
            have z10 : wr.cell? ⟨X, 10, none⟩ = some (.int .i64 0) := kz.cell 10
            have f0 := kz.frozen 0
            have f1 := kz.frozen 1
            have f2 := kz.frozen 2
            have f3 := kz.frozen 3
            have f4 := kz.frozen 4
            have f5 := kz.frozen 5
            have f6 := kz.frozen 6
            have f7 := kz.frozen 7
            have f8 := kz.frozen 8
            have f9 := kz.frozen 9
            have f10 := kz.frozen 10
            have k9 := put11 kz (.int .u8 0) (.int .i64 0) (.int .i64 0) (.int .i64 0) (.int .i64 0) (.int .i64 0) (.int .i64 0) (.int .u8 0) (.slice none 0 0) (.int .i64 0) (.int .i64 0)
            have b9 := bel11 bz (.int .u8 0) (.int .i64 0) (.int .i64 0) (.int .i64 0) (.int .i64 0) (.int .i64 0) (.int .i64 0) (.int .u8 0) (.slice none 0 0) (.int .i64 0) (.int .i64 0)
            obtain ⟨w9, hw9⟩ : ∃ z, (((((((((((wr.setCell ⟨X, 0, none⟩ (.int .u8 0)).setCell ⟨X, 1, none⟩ (.int .i64 0)).setCell ⟨X, 2, none⟩ (.int .i64 0)).setCell ⟨X, 3, none⟩ (.int .i64 0)).setCell ⟨X, 4, none⟩ (.int .i64 0)).setCell ⟨X, 5, none⟩ (.int .i64 0)).setCell ⟨X, 6, none⟩ (.int .i64 0)).setCell ⟨X, 7, none⟩ (.int .u8 0)).setCell ⟨X, 8, none⟩ (.slice none 0 0)).setCell ⟨X, 9, none⟩ (.int .i64 0)).setCell ⟨X, 10, none⟩ (.int .i64 0)) = z := ⟨_, rfl⟩
            rw [hw9] at k9 b9
            have u0 : w9.cell? ⟨X, 0, none⟩ = some (.int .u8 0) := k9.cell 0
            have u1 : w9.cell? ⟨X, 1, none⟩ = some (.int .i64 0) := k9.cell 1
            have u2 : w9.cell? ⟨X, 2, none⟩ = some (.int .i64 0) := k9.cell 2
            have u3 : w9.cell? ⟨X, 3, none⟩ = some (.int .i64 0) := k9.cell 3
            have u4 : w9.cell? ⟨X, 4, none⟩ = some (.int .i64 0) := k9.cell 4
            have u5 : w9.cell? ⟨X, 5, none⟩ = some (.int .i64 0) := k9.cell 5
            have u6 : w9.cell? ⟨X, 6, none⟩ = some (.int .i64 0) := k9.cell 6
            have u7 : w9.cell? ⟨X, 7, none⟩ = some (.int .u8 0) := k9.cell 7
            have u8 : w9.cell? ⟨X, 8, none⟩ = some (.slice none 0 0) := k9.cell 8
            have u9 : w9.cell? ⟨X, 9, none⟩ = some (.int .i64 0) := k9.cell 9
            have u10 : w9.cell? ⟨X, 10, none⟩ = some (.int .i64 0) := k9.cell 10
            have HB9 := hide b9
            clear b9 k9
            go_wp2_with fail
            exact bodyPost_ret (v := .tuple #[.agg #[.int .u8 0, .int .i64 0, .int .i64 0, .int .i64 0, .int .i64 0, .int .i64 0, .int .i64 0, .int .u8 0, .slice none 0 0, .int .i64 0, .int .i64 0], .int .i64 160]) (by simp [results, Tryd.results10, go_sem, u0, u1, u2, u3, u4, u5, u6, u7, u8, u9, u10]) rfl ⟨.inl ⟨WHY.out, rfl⟩, by rw [HX.out]; exact HB9.out⟩
          have hn3 : nI = 1 := by rw [← HNI.out, hn]; rfl
          subst hn3
          subst hn
          obtain ⟨gl, hgl, _, _, _, _, _, _⟩ := own_cell HOL.out (by decide)
          subst hgl
          obtain ⟨y0, hy0⟩ : ∃ z, l.getD 0 0 = z := ⟨_, rfl⟩
          have HY0 := hide hy0
          have hDB : D < w6.heap.size := by have h1 := HPR.out.dt; have h2 := HP6.out.ht; omega
          have HLL := hide (show l.length = 1 from HFT.out.1)
          clear hy0
          have HDB := hide hDB
          clear hDB
          have n0 : wr.cell? ⟨gl, 0, none⟩ = some (.int .i64 y0) := own_i64 HOL.out (by rw [HLL.out]; decide) HLL.out HY0.out
          have z1 : wr.cell? ⟨D, 1, none⟩ = some (.int .i64 0) := HPR.out.db.cell 1
          have f1 := HPR.out.db.frozen 1
          have hq0 : PSt w T X Z0 D A cap args #[.int .u8 k, .int .i64 y0, .int .i64 0, .int .i64 0, .int .i64 0, .int .i64 0, .int .i64 0, .int .u8 op, .slice none 0 0, .int .i64 0, .int .i64 0] (wr.setCell ⟨D, 1, none⟩ (.int .i64 y0)) := (HPR.out).set 1 (.int .i64 y0)
          have hl0 := own_set_farK (p := ⟨D, 1, none⟩) (HOL.out) HDB.out (.int .i64 y0)
          obtain ⟨x0w, hw0⟩ : ∃ z, (wr.setCell ⟨D, 1, none⟩ (.int .i64 y0)) = z := ⟨_, rfl⟩
          rw [hw0] at hq0 hl0
          have HQ0 := hide hq0
          have HL0 := hide hl0
          clear hq0 hl0
          go_wp2_with fail
          clear n0 z1 f1
          have FP : FldP w T X Z0 D A cap args k op l x0w := ⟨{ zeroC with k := k, op := op, co := y0 }, none, 0, by
            have hll := HLL.out
            simp [setB, USE.out, hll, ← HY0.out], HQ0.out, ⟨rfl, .inl ⟨rfl, rfl⟩⟩⟩
          refine Met.intro ?_
          go_step
          (repeat apply Exists.intro)
          refine And.intro ?relm7 ?frm7
          case frm7 => with_reducible rfl
          exact FP
        · have USE := hide e
          have eU : U.toList = [99, 114, 118] := by rw [← HU.out, hu, ByteArray.toList_eq]
          have hb1 : bl = false := by rw [← HBL.out, eU]; decide
          subst hb1
          have ea : (argsOf k).1 = 3 := by rw [args_least HKC.out (by rw [e]; decide), e]; decide
          obtain ⟨a2, ha2⟩ : ∃ z, (argsOf k).2 = z := ⟨_, rfl⟩
          have AB := hide (args_b k wr)
          rw [ea, ha2] at AB
          clear e hu ea ha2
          go_wp2_with fail
          refine AB.out.mono ?_
          rintro e wrc ⟨rfl, hwrc⟩
          obtain rfl : wr = wrc := hwrc
          by_cases hn : n2 = 3
          rotate_left
          · have hnI : ¬ (n2 : Int) = 3 := by omega
            have hsn : setB k op l = none := by
              have hll := HFT.out.1
              simp [setB, USE.out, hll, hn]
            have WHY : Hid (ParsedAs s none) := hide (parsedB_no (by rw [RDS.out, hsn]))
            clear hsn hn
            have q0 : wr.cell? ⟨Z0, 0, none⟩ = some (.int .u8 0) := HPR.out.zb.cell 0
            have q1 : wr.cell? ⟨Z0, 1, none⟩ = some (.int .i64 0) := HPR.out.zb.cell 1
            have q2 : wr.cell? ⟨Z0, 2, none⟩ = some (.int .i64 0) := HPR.out.zb.cell 2
            have q3 : wr.cell? ⟨Z0, 3, none⟩ = some (.int .i64 0) := HPR.out.zb.cell 3
            have q4 : wr.cell? ⟨Z0, 4, none⟩ = some (.int .i64 0) := HPR.out.zb.cell 4
            have q5 : wr.cell? ⟨Z0, 5, none⟩ = some (.int .i64 0) := HPR.out.zb.cell 5
            have q6 : wr.cell? ⟨Z0, 6, none⟩ = some (.int .i64 0) := HPR.out.zb.cell 6
            have q7 : wr.cell? ⟨Z0, 7, none⟩ = some (.int .u8 0) := HPR.out.zb.cell 7
            have q8 : wr.cell? ⟨Z0, 8, none⟩ = some (.slice none 0 0) := HPR.out.zb.cell 8
            have q9 : wr.cell? ⟨Z0, 9, none⟩ = some (.int .i64 0) := HPR.out.zb.cell 9
            have q10 : wr.cell? ⟨Z0, 10, none⟩ = some (.int .i64 0) := HPR.out.zb.cell 10
            have kz := HPR.out.xb
            have bz := HPR.out.low
            have z0 : wr.cell? ⟨X, 0, none⟩ = some (.int .u8 0) := kz.cell 0
            have z1 : wr.cell? ⟨X, 1, none⟩ = some (.int .i64 0) := kz.cell 1
            have z2 : wr.cell? ⟨X, 2, none⟩ = some (.int .i64 0) := kz.cell 2
            have z3 : wr.cell? ⟨X, 3, none⟩ = some (.int .i64 0) := kz.cell 3
            have z4 : wr.cell? ⟨X, 4, none⟩ = some (.int .i64 0) := kz.cell 4
            have z5 : wr.cell? ⟨X, 5, none⟩ = some (.int .i64 0) := kz.cell 5
            have z6 : wr.cell? ⟨X, 6, none⟩ = some (.int .i64 0) := kz.cell 6
            have z7 : wr.cell? ⟨X, 7, none⟩ = some (.int .u8 0) := kz.cell 7
            have z8 : wr.cell? ⟨X, 8, none⟩ = some (.slice none 0 0) := kz.cell 8
            have z9 : wr.cell? ⟨X, 9, none⟩ = some (.int .i64 0) := kz.cell 9
            have z10 : wr.cell? ⟨X, 10, none⟩ = some (.int .i64 0) := kz.cell 10
            have f0 := kz.frozen 0
            have f1 := kz.frozen 1
            have f2 := kz.frozen 2
            have f3 := kz.frozen 3
            have f4 := kz.frozen 4
            have f5 := kz.frozen 5
            have f6 := kz.frozen 6
            have f7 := kz.frozen 7
            have f8 := kz.frozen 8
            have f9 := kz.frozen 9
            have f10 := kz.frozen 10
            have k9 := put11 kz (.int .u8 0) (.int .i64 0) (.int .i64 0) (.int .i64 0) (.int .i64 0) (.int .i64 0) (.int .i64 0) (.int .u8 0) (.slice none 0 0) (.int .i64 0) (.int .i64 0)
            have b9 := bel11 bz (.int .u8 0) (.int .i64 0) (.int .i64 0) (.int .i64 0) (.int .i64 0) (.int .i64 0) (.int .i64 0) (.int .u8 0) (.slice none 0 0) (.int .i64 0) (.int .i64 0)
            obtain ⟨w9, hw9⟩ : ∃ z, (((((((((((wr.setCell ⟨X, 0, none⟩ (.int .u8 0)).setCell ⟨X, 1, none⟩ (.int .i64 0)).setCell ⟨X, 2, none⟩ (.int .i64 0)).setCell ⟨X, 3, none⟩ (.int .i64 0)).setCell ⟨X, 4, none⟩ (.int .i64 0)).setCell ⟨X, 5, none⟩ (.int .i64 0)).setCell ⟨X, 6, none⟩ (.int .i64 0)).setCell ⟨X, 7, none⟩ (.int .u8 0)).setCell ⟨X, 8, none⟩ (.slice none 0 0)).setCell ⟨X, 9, none⟩ (.int .i64 0)).setCell ⟨X, 10, none⟩ (.int .i64 0)) = z := ⟨_, rfl⟩
            rw [hw9] at k9 b9
            have u0 : w9.cell? ⟨X, 0, none⟩ = some (.int .u8 0) := k9.cell 0
            have u1 : w9.cell? ⟨X, 1, none⟩ = some (.int .i64 0) := k9.cell 1
            have u2 : w9.cell? ⟨X, 2, none⟩ = some (.int .i64 0) := k9.cell 2
            have u3 : w9.cell? ⟨X, 3, none⟩ = some (.int .i64 0) := k9.cell 3
            have u4 : w9.cell? ⟨X, 4, none⟩ = some (.int .i64 0) := k9.cell 4
            have u5 : w9.cell? ⟨X, 5, none⟩ = some (.int .i64 0) := k9.cell 5
            have u6 : w9.cell? ⟨X, 6, none⟩ = some (.int .i64 0) := k9.cell 6
            have u7 : w9.cell? ⟨X, 7, none⟩ = some (.int .u8 0) := k9.cell 7
            have u8 : w9.cell? ⟨X, 8, none⟩ = some (.slice none 0 0) := k9.cell 8
            have u9 : w9.cell? ⟨X, 9, none⟩ = some (.int .i64 0) := k9.cell 9
            have u10 : w9.cell? ⟨X, 10, none⟩ = some (.int .i64 0) := k9.cell 10
            have HB9 := hide b9
            clear b9 k9
            go_wp2_with fail
            exact bodyPost_ret (v := .tuple #[.agg #[.int .u8 0, .int .i64 0, .int .i64 0, .int .i64 0, .int .i64 0, .int .i64 0, .int .i64 0, .int .u8 0, .slice none 0 0, .int .i64 0, .int .i64 0], .int .i64 160]) (by simp [results, Tryd.results10, go_sem, u0, u1, u2, u3, u4, u5, u6, u7, u8, u9, u10]) rfl ⟨.inl ⟨WHY.out, rfl⟩, by rw [HX.out]; exact HB9.out⟩
          have hn3 : nI = 3 := by rw [← HNI.out, hn]; rfl
          subst hn3
          subst hn
          obtain ⟨gl, hgl, _, _, _, _, _, _⟩ := own_cell HOL.out (by decide)
          subst hgl
          obtain ⟨y0, hy0⟩ : ∃ z, l.getD 0 0 = z := ⟨_, rfl⟩
          have HY0 := hide hy0
          obtain ⟨y1, hy1⟩ : ∃ z, l.getD 1 0 = z := ⟨_, rfl⟩
          have HY1 := hide hy1
          obtain ⟨y2, hy2⟩ : ∃ z, l.getD 2 0 = z := ⟨_, rfl⟩
          have HY2 := hide hy2
          have hDB : D < w6.heap.size := by have h1 := HPR.out.dt; have h2 := HP6.out.ht; omega
          have HLL := hide (show l.length = 3 from HFT.out.1)
          clear hy0 hy1 hy2
          have HDB := hide hDB
          clear hDB
          have n0 : wr.cell? ⟨gl, 0, none⟩ = some (.int .i64 y0) := own_i64 HOL.out (by rw [HLL.out]; decide) HLL.out HY0.out
          have z1 : wr.cell? ⟨D, 1, none⟩ = some (.int .i64 0) := HPR.out.db.cell 1
          have f1 := HPR.out.db.frozen 1
          have hq0 : PSt w T X Z0 D A cap args #[.int .u8 k, .int .i64 y0, .int .i64 0, .int .i64 0, .int .i64 0, .int .i64 0, .int .i64 0, .int .u8 op, .slice none 0 0, .int .i64 0, .int .i64 0] (wr.setCell ⟨D, 1, none⟩ (.int .i64 y0)) := (HPR.out).set 1 (.int .i64 y0)
          have hl0 := own_set_farK (p := ⟨D, 1, none⟩) (HOL.out) HDB.out (.int .i64 y0)
          obtain ⟨x0w, hw0⟩ : ∃ z, (wr.setCell ⟨D, 1, none⟩ (.int .i64 y0)) = z := ⟨_, rfl⟩
          rw [hw0] at hq0 hl0
          have HQ0 := hide hq0
          have HL0 := hide hl0
          clear hq0 hl0
          go_upto_region 28 with (fail)
          try rw [hw0]
          clear n0 z1 f1 hw0
          have n1 : x0w.cell? ⟨gl, 1, none⟩ = some (.int .i64 y1) := own_i64 HL0.out (by rw [HLL.out]; decide) HLL.out HY1.out
          have z6 : x0w.cell? ⟨D, 6, none⟩ = some (.int .i64 0) := HQ0.out.db.cell 6
          have f6 := HQ0.out.db.frozen 6
          have hq1 : PSt w T X Z0 D A cap args #[.int .u8 k, .int .i64 y0, .int .i64 0, .int .i64 0, .int .i64 0, .int .i64 0, .int .i64 y1, .int .u8 op, .slice none 0 0, .int .i64 0, .int .i64 0] (x0w.setCell ⟨D, 6, none⟩ (.int .i64 y1)) := (HQ0.out).set 6 (.int .i64 y1)
          have hl1 := own_set_farK (p := ⟨D, 6, none⟩) (HL0.out) HDB.out (.int .i64 y1)
          obtain ⟨x1w, hw1⟩ : ∃ z, (x0w.setCell ⟨D, 6, none⟩ (.int .i64 y1)) = z := ⟨_, rfl⟩
          rw [hw1] at hq1 hl1
          have HQ1 := hide hq1
          have HL1 := hide hl1
          clear hq1 hl1
          go_upto_region 38 with (fail)
          try rw [hw1]
          clear n1 z6 f6 hw1
          have n2 : x1w.cell? ⟨gl, 2, none⟩ = some (.int .i64 y2) := own_i64 HL1.out (by rw [HLL.out]; decide) HLL.out HY2.out
          have z4 : x1w.cell? ⟨D, 4, none⟩ = some (.int .i64 0) := HQ1.out.db.cell 4
          have f4 := HQ1.out.db.frozen 4
          have hq2 : PSt w T X Z0 D A cap args #[.int .u8 k, .int .i64 y0, .int .i64 0, .int .i64 0, .int .i64 y2, .int .i64 0, .int .i64 y1, .int .u8 op, .slice none 0 0, .int .i64 0, .int .i64 0] (x1w.setCell ⟨D, 4, none⟩ (.int .i64 y2)) := (HQ1.out).set 4 (.int .i64 y2)
          have hl2 := own_set_farK (p := ⟨D, 4, none⟩) (HL1.out) HDB.out (.int .i64 y2)
          obtain ⟨x2w, hw2⟩ : ∃ z, (x1w.setCell ⟨D, 4, none⟩ (.int .i64 y2)) = z := ⟨_, rfl⟩
          rw [hw2] at hq2 hl2
          have HQ2 := hide hq2
          have HL2 := hide hl2
          clear hq2 hl2
          go_wp2_with fail
          clear n2 z4 f4
          have FP : FldP w T X Z0 D A cap args k op l x2w := ⟨{ zeroC with k := k, op := op, co := y0, ro := y1, va := y2 }, none, 0, by
            have hll := HLL.out
            simp [setB, USE.out, hll, ← HY0.out, ← HY1.out, ← HY2.out], HQ2.out, ⟨rfl, .inl ⟨rfl, rfl⟩⟩⟩
          refine Met.intro ?_
          go_step
          (repeat apply Exists.intro)
          refine And.intro ?relm8 ?frm8
          case frm8 => with_reducible rfl
          exact FP
        · have USE := hide e
          have eU : U.toList = [99, 114, 118, 111] := by rw [← HU.out, hu, ByteArray.toList_eq]
          have hb1 : bl = false := by rw [← HBL.out, eU]; decide
          subst hb1
          have ea : (argsOf k).1 = 3 := by rw [args_least HKC.out (by rw [e]; decide), e]; decide
          obtain ⟨a2, ha2⟩ : ∃ z, (argsOf k).2 = z := ⟨_, rfl⟩
          have AB := hide (args_b k wr)
          rw [ea, ha2] at AB
          clear e hu ea ha2
          go_wp2_with fail
          refine AB.out.mono ?_
          rintro e wrc ⟨rfl, hwrc⟩
          obtain rfl : wr = wrc := hwrc
          by_cases hn : n2 = 3
          rotate_left
          · have hnI : ¬ (n2 : Int) = 3 := by omega
            have hsn : setB k op l = none := by
              have hll := HFT.out.1
              simp [setB, USE.out, hll, hn]
            have WHY : Hid (ParsedAs s none) := hide (parsedB_no (by rw [RDS.out, hsn]))
            clear hsn hn
            have q0 : wr.cell? ⟨Z0, 0, none⟩ = some (.int .u8 0) := HPR.out.zb.cell 0
            have q1 : wr.cell? ⟨Z0, 1, none⟩ = some (.int .i64 0) := HPR.out.zb.cell 1
            have q2 : wr.cell? ⟨Z0, 2, none⟩ = some (.int .i64 0) := HPR.out.zb.cell 2
            have q3 : wr.cell? ⟨Z0, 3, none⟩ = some (.int .i64 0) := HPR.out.zb.cell 3
            have q4 : wr.cell? ⟨Z0, 4, none⟩ = some (.int .i64 0) := HPR.out.zb.cell 4
            have q5 : wr.cell? ⟨Z0, 5, none⟩ = some (.int .i64 0) := HPR.out.zb.cell 5
            have q6 : wr.cell? ⟨Z0, 6, none⟩ = some (.int .i64 0) := HPR.out.zb.cell 6
            have q7 : wr.cell? ⟨Z0, 7, none⟩ = some (.int .u8 0) := HPR.out.zb.cell 7
            have q8 : wr.cell? ⟨Z0, 8, none⟩ = some (.slice none 0 0) := HPR.out.zb.cell 8
            have q9 : wr.cell? ⟨Z0, 9, none⟩ = some (.int .i64 0) := HPR.out.zb.cell 9
            have q10 : wr.cell? ⟨Z0, 10, none⟩ = some (.int .i64 0) := HPR.out.zb.cell 10
            have kz := HPR.out.xb
            have bz := HPR.out.low
            have z0 : wr.cell? ⟨X, 0, none⟩ = some (.int .u8 0) := kz.cell 0
            have z1 : wr.cell? ⟨X, 1, none⟩ = some (.int .i64 0) := kz.cell 1
            have z2 : wr.cell? ⟨X, 2, none⟩ = some (.int .i64 0) := kz.cell 2
            have z3 : wr.cell? ⟨X, 3, none⟩ = some (.int .i64 0) := kz.cell 3
            have z4 : wr.cell? ⟨X, 4, none⟩ = some (.int .i64 0) := kz.cell 4
            have z5 : wr.cell? ⟨X, 5, none⟩ = some (.int .i64 0) := kz.cell 5
            have z6 : wr.cell? ⟨X, 6, none⟩ = some (.int .i64 0) := kz.cell 6
            have z7 : wr.cell? ⟨X, 7, none⟩ = some (.int .u8 0) := kz.cell 7
            have z8 : wr.cell? ⟨X, 8, none⟩ = some (.slice none 0 0) := kz.cell 8
            have z9 : wr.cell? ⟨X, 9, none⟩ = some (.int .i64 0) := kz.cell 9
            have z10 : wr.cell? ⟨X, 10, none⟩ = some (.int .i64 0) := kz.cell 10
            have f0 := kz.frozen 0
            have f1 := kz.frozen 1
            have f2 := kz.frozen 2
            have f3 := kz.frozen 3
            have f4 := kz.frozen 4
            have f5 := kz.frozen 5
            have f6 := kz.frozen 6
            have f7 := kz.frozen 7
            have f8 := kz.frozen 8
            have f9 := kz.frozen 9
            have f10 := kz.frozen 10
            have k9 := put11 kz (.int .u8 0) (.int .i64 0) (.int .i64 0) (.int .i64 0) (.int .i64 0) (.int .i64 0) (.int .i64 0) (.int .u8 0) (.slice none 0 0) (.int .i64 0) (.int .i64 0)
            have b9 := bel11 bz (.int .u8 0) (.int .i64 0) (.int .i64 0) (.int .i64 0) (.int .i64 0) (.int .i64 0) (.int .i64 0) (.int .u8 0) (.slice none 0 0) (.int .i64 0) (.int .i64 0)
            obtain ⟨w9, hw9⟩ : ∃ z, (((((((((((wr.setCell ⟨X, 0, none⟩ (.int .u8 0)).setCell ⟨X, 1, none⟩ (.int .i64 0)).setCell ⟨X, 2, none⟩ (.int .i64 0)).setCell ⟨X, 3, none⟩ (.int .i64 0)).setCell ⟨X, 4, none⟩ (.int .i64 0)).setCell ⟨X, 5, none⟩ (.int .i64 0)).setCell ⟨X, 6, none⟩ (.int .i64 0)).setCell ⟨X, 7, none⟩ (.int .u8 0)).setCell ⟨X, 8, none⟩ (.slice none 0 0)).setCell ⟨X, 9, none⟩ (.int .i64 0)).setCell ⟨X, 10, none⟩ (.int .i64 0)) = z := ⟨_, rfl⟩
            rw [hw9] at k9 b9
            have u0 : w9.cell? ⟨X, 0, none⟩ = some (.int .u8 0) := k9.cell 0
            have u1 : w9.cell? ⟨X, 1, none⟩ = some (.int .i64 0) := k9.cell 1
            have u2 : w9.cell? ⟨X, 2, none⟩ = some (.int .i64 0) := k9.cell 2
            have u3 : w9.cell? ⟨X, 3, none⟩ = some (.int .i64 0) := k9.cell 3
            have u4 : w9.cell? ⟨X, 4, none⟩ = some (.int .i64 0) := k9.cell 4
            have u5 : w9.cell? ⟨X, 5, none⟩ = some (.int .i64 0) := k9.cell 5
            have u6 : w9.cell? ⟨X, 6, none⟩ = some (.int .i64 0) := k9.cell 6
            have u7 : w9.cell? ⟨X, 7, none⟩ = some (.int .u8 0) := k9.cell 7
            have u8 : w9.cell? ⟨X, 8, none⟩ = some (.slice none 0 0) := k9.cell 8
            have u9 : w9.cell? ⟨X, 9, none⟩ = some (.int .i64 0) := k9.cell 9
            have u10 : w9.cell? ⟨X, 10, none⟩ = some (.int .i64 0) := k9.cell 10
            have HB9 := hide b9
            clear b9 k9
            go_wp2_with fail
            exact bodyPost_ret (v := .tuple #[.agg #[.int .u8 0, .int .i64 0, .int .i64 0, .int .i64 0, .int .i64 0, .int .i64 0, .int .i64 0, .int .u8 0, .slice none 0 0, .int .i64 0, .int .i64 0], .int .i64 160]) (by simp [results, Tryd.results10, go_sem, u0, u1, u2, u3, u4, u5, u6, u7, u8, u9, u10]) rfl ⟨.inl ⟨WHY.out, rfl⟩, by rw [HX.out]; exact HB9.out⟩
          have hn3 : nI = 3 := by rw [← HNI.out, hn]; rfl
          subst hn3
          subst hn
          obtain ⟨gl, hgl, _, _, _, _, _, _⟩ := own_cell HOL.out (by decide)
          subst hgl
          obtain ⟨y0, hy0⟩ : ∃ z, l.getD 0 0 = z := ⟨_, rfl⟩
          have HY0 := hide hy0
          obtain ⟨y1, hy1⟩ : ∃ z, l.getD 1 0 = z := ⟨_, rfl⟩
          have HY1 := hide hy1
          obtain ⟨y2, hy2⟩ : ∃ z, l.getD 2 0 = z := ⟨_, rfl⟩
          have HY2 := hide hy2
          have hDB : D < w6.heap.size := by have h1 := HPR.out.dt; have h2 := HP6.out.ht; omega
          have HLL := hide (show l.length = 3 from HFT.out.1)
          clear hy0 hy1 hy2
          have HDB := hide hDB
          clear hDB
          have n0 : wr.cell? ⟨gl, 0, none⟩ = some (.int .i64 y0) := own_i64 HOL.out (by rw [HLL.out]; decide) HLL.out HY0.out
          have z1 : wr.cell? ⟨D, 1, none⟩ = some (.int .i64 0) := HPR.out.db.cell 1
          have f1 := HPR.out.db.frozen 1
          have hq0 : PSt w T X Z0 D A cap args #[.int .u8 k, .int .i64 y0, .int .i64 0, .int .i64 0, .int .i64 0, .int .i64 0, .int .i64 0, .int .u8 op, .slice none 0 0, .int .i64 0, .int .i64 0] (wr.setCell ⟨D, 1, none⟩ (.int .i64 y0)) := (HPR.out).set 1 (.int .i64 y0)
          have hl0 := own_set_farK (p := ⟨D, 1, none⟩) (HOL.out) HDB.out (.int .i64 y0)
          obtain ⟨x0w, hw0⟩ : ∃ z, (wr.setCell ⟨D, 1, none⟩ (.int .i64 y0)) = z := ⟨_, rfl⟩
          rw [hw0] at hq0 hl0
          have HQ0 := hide hq0
          have HL0 := hide hl0
          clear hq0 hl0
          go_upto_region 28 with (fail)
          try rw [hw0]
          clear n0 z1 f1 hw0
          have n1 : x0w.cell? ⟨gl, 1, none⟩ = some (.int .i64 y1) := own_i64 HL0.out (by rw [HLL.out]; decide) HLL.out HY1.out
          have z6 : x0w.cell? ⟨D, 6, none⟩ = some (.int .i64 0) := HQ0.out.db.cell 6
          have f6 := HQ0.out.db.frozen 6
          have hq1 : PSt w T X Z0 D A cap args #[.int .u8 k, .int .i64 y0, .int .i64 0, .int .i64 0, .int .i64 0, .int .i64 0, .int .i64 y1, .int .u8 op, .slice none 0 0, .int .i64 0, .int .i64 0] (x0w.setCell ⟨D, 6, none⟩ (.int .i64 y1)) := (HQ0.out).set 6 (.int .i64 y1)
          have hl1 := own_set_farK (p := ⟨D, 6, none⟩) (HL0.out) HDB.out (.int .i64 y1)
          obtain ⟨x1w, hw1⟩ : ∃ z, (x0w.setCell ⟨D, 6, none⟩ (.int .i64 y1)) = z := ⟨_, rfl⟩
          rw [hw1] at hq1 hl1
          have HQ1 := hide hq1
          have HL1 := hide hl1
          clear hq1 hl1
          go_upto_region 38 with (fail)
          try rw [hw1]
          clear n1 z6 f6 hw1
          have n2 : x1w.cell? ⟨gl, 2, none⟩ = some (.int .i64 y2) := own_i64 HL1.out (by rw [HLL.out]; decide) HLL.out HY2.out
          have z4 : x1w.cell? ⟨D, 4, none⟩ = some (.int .i64 0) := HQ1.out.db.cell 4
          have f4 := HQ1.out.db.frozen 4
          have hq2 : PSt w T X Z0 D A cap args #[.int .u8 k, .int .i64 y0, .int .i64 0, .int .i64 0, .int .i64 y2, .int .i64 0, .int .i64 y1, .int .u8 op, .slice none 0 0, .int .i64 0, .int .i64 0] (x1w.setCell ⟨D, 4, none⟩ (.int .i64 y2)) := (HQ1.out).set 4 (.int .i64 y2)
          have hl2 := own_set_farK (p := ⟨D, 4, none⟩) (HL1.out) HDB.out (.int .i64 y2)
          obtain ⟨x2w, hw2⟩ : ∃ z, (x1w.setCell ⟨D, 4, none⟩ (.int .i64 y2)) = z := ⟨_, rfl⟩
          rw [hw2] at hq2 hl2
          have HQ2 := hide hq2
          have HL2 := hide hl2
          clear hq2 hl2
          go_wp2_with fail
          clear n2 z4 f4
          have FP : FldP w T X Z0 D A cap args k op l x2w := ⟨{ zeroC with k := k, op := op, co := y0, ro := y1, va := y2 }, none, 0, by
            have hll := HLL.out
            simp [setB, USE.out, hll, ← HY0.out, ← HY1.out, ← HY2.out], HQ2.out, ⟨rfl, .inl ⟨rfl, rfl⟩⟩⟩
          refine Met.intro ?_
          go_step
          (repeat apply Exists.intro)
          refine And.intro ?relm9 ?frm9
          case frm9 => with_reducible rfl
          exact FP
        · have USE := hide e
          have eU : U.toList = [99, 118, 111] := by rw [← HU.out, hu, ByteArray.toList_eq]
          have hb1 : bl = false := by rw [← HBL.out, eU]; decide
          subst hb1
          have ea : (argsOf k).1 = 2 := by rw [args_least HKC.out (by rw [e]; decide), e]; decide
          obtain ⟨a2, ha2⟩ : ∃ z, (argsOf k).2 = z := ⟨_, rfl⟩
          have AB := hide (args_b k wr)
          rw [ea, ha2] at AB
          clear e hu ea ha2
          go_wp2_with fail
          refine AB.out.mono ?_
          rintro e wrc ⟨rfl, hwrc⟩
          obtain rfl : wr = wrc := hwrc
          by_cases hn : n2 = 2
          rotate_left
          · have hnI : ¬ (n2 : Int) = 2 := by omega
            have hsn : setB k op l = none := by
              have hll := HFT.out.1
              simp [setB, USE.out, hll, hn]
            have WHY : Hid (ParsedAs s none) := hide (parsedB_no (by rw [RDS.out, hsn]))
            clear hsn hn
            have q0 : wr.cell? ⟨Z0, 0, none⟩ = some (.int .u8 0) := HPR.out.zb.cell 0
            have q1 : wr.cell? ⟨Z0, 1, none⟩ = some (.int .i64 0) := HPR.out.zb.cell 1
            have q2 : wr.cell? ⟨Z0, 2, none⟩ = some (.int .i64 0) := HPR.out.zb.cell 2
            have q3 : wr.cell? ⟨Z0, 3, none⟩ = some (.int .i64 0) := HPR.out.zb.cell 3
            have q4 : wr.cell? ⟨Z0, 4, none⟩ = some (.int .i64 0) := HPR.out.zb.cell 4
            have q5 : wr.cell? ⟨Z0, 5, none⟩ = some (.int .i64 0) := HPR.out.zb.cell 5
            have q6 : wr.cell? ⟨Z0, 6, none⟩ = some (.int .i64 0) := HPR.out.zb.cell 6
            have q7 : wr.cell? ⟨Z0, 7, none⟩ = some (.int .u8 0) := HPR.out.zb.cell 7
            have q8 : wr.cell? ⟨Z0, 8, none⟩ = some (.slice none 0 0) := HPR.out.zb.cell 8
            have q9 : wr.cell? ⟨Z0, 9, none⟩ = some (.int .i64 0) := HPR.out.zb.cell 9
            have q10 : wr.cell? ⟨Z0, 10, none⟩ = some (.int .i64 0) := HPR.out.zb.cell 10
            have kz := HPR.out.xb
            have bz := HPR.out.low
            have z0 : wr.cell? ⟨X, 0, none⟩ = some (.int .u8 0) := kz.cell 0
            have z1 : wr.cell? ⟨X, 1, none⟩ = some (.int .i64 0) := kz.cell 1
            have z2 : wr.cell? ⟨X, 2, none⟩ = some (.int .i64 0) := kz.cell 2
            have z3 : wr.cell? ⟨X, 3, none⟩ = some (.int .i64 0) := kz.cell 3
            have z4 : wr.cell? ⟨X, 4, none⟩ = some (.int .i64 0) := kz.cell 4
            have z5 : wr.cell? ⟨X, 5, none⟩ = some (.int .i64 0) := kz.cell 5
            have z6 : wr.cell? ⟨X, 6, none⟩ = some (.int .i64 0) := kz.cell 6
            have z7 : wr.cell? ⟨X, 7, none⟩ = some (.int .u8 0) := kz.cell 7
            have z8 : wr.cell? ⟨X, 8, none⟩ = some (.slice none 0 0) := kz.cell 8
            have z9 : wr.cell? ⟨X, 9, none⟩ = some (.int .i64 0) := kz.cell 9
            have z10 : wr.cell? ⟨X, 10, none⟩ = some (.int .i64 0) := kz.cell 10
            have f0 := kz.frozen 0
            have f1 := kz.frozen 1
            have f2 := kz.frozen 2
            have f3 := kz.frozen 3
            have f4 := kz.frozen 4
            have f5 := kz.frozen 5
            have f6 := kz.frozen 6
            have f7 := kz.frozen 7
            have f8 := kz.frozen 8
            have f9 := kz.frozen 9
            have f10 := kz.frozen 10
            have k9 := put11 kz (.int .u8 0) (.int .i64 0) (.int .i64 0) (.int .i64 0) (.int .i64 0) (.int .i64 0) (.int .i64 0) (.int .u8 0) (.slice none 0 0) (.int .i64 0) (.int .i64 0)
            have b9 := bel11 bz (.int .u8 0) (.int .i64 0) (.int .i64 0) (.int .i64 0) (.int .i64 0) (.int .i64 0) (.int .i64 0) (.int .u8 0) (.slice none 0 0) (.int .i64 0) (.int .i64 0)
            obtain ⟨w9, hw9⟩ : ∃ z, (((((((((((wr.setCell ⟨X, 0, none⟩ (.int .u8 0)).setCell ⟨X, 1, none⟩ (.int .i64 0)).setCell ⟨X, 2, none⟩ (.int .i64 0)).setCell ⟨X, 3, none⟩ (.int .i64 0)).setCell ⟨X, 4, none⟩ (.int .i64 0)).setCell ⟨X, 5, none⟩ (.int .i64 0)).setCell ⟨X, 6, none⟩ (.int .i64 0)).setCell ⟨X, 7, none⟩ (.int .u8 0)).setCell ⟨X, 8, none⟩ (.slice none 0 0)).setCell ⟨X, 9, none⟩ (.int .i64 0)).setCell ⟨X, 10, none⟩ (.int .i64 0)) = z := ⟨_, rfl⟩
            rw [hw9] at k9 b9
            have u0 : w9.cell? ⟨X, 0, none⟩ = some (.int .u8 0) := k9.cell 0
            have u1 : w9.cell? ⟨X, 1, none⟩ = some (.int .i64 0) := k9.cell 1
            have u2 : w9.cell? ⟨X, 2, none⟩ = some (.int .i64 0) := k9.cell 2
            have u3 : w9.cell? ⟨X, 3, none⟩ = some (.int .i64 0) := k9.cell 3
            have u4 : w9.cell? ⟨X, 4, none⟩ = some (.int .i64 0) := k9.cell 4
            have u5 : w9.cell? ⟨X, 5, none⟩ = some (.int .i64 0) := k9.cell 5
            have u6 : w9.cell? ⟨X, 6, none⟩ = some (.int .i64 0) := k9.cell 6
            have u7 : w9.cell? ⟨X, 7, none⟩ = some (.int .u8 0) := k9.cell 7
            have u8 : w9.cell? ⟨X, 8, none⟩ = some (.slice none 0 0) := k9.cell 8
            have u9 : w9.cell? ⟨X, 9, none⟩ = some (.int .i64 0) := k9.cell 9
            have u10 : w9.cell? ⟨X, 10, none⟩ = some (.int .i64 0) := k9.cell 10
            have HB9 := hide b9
            clear b9 k9
            go_wp2_with fail
            exact bodyPost_ret (v := .tuple #[.agg #[.int .u8 0, .int .i64 0, .int .i64 0, .int .i64 0, .int .i64 0, .int .i64 0, .int .i64 0, .int .u8 0, .slice none 0 0, .int .i64 0, .int .i64 0], .int .i64 160]) (by simp [results, Tryd.results10, go_sem, u0, u1, u2, u3, u4, u5, u6, u7, u8, u9, u10]) rfl ⟨.inl ⟨WHY.out, rfl⟩, by rw [HX.out]; exact HB9.out⟩
          have hn3 : nI = 2 := by rw [← HNI.out, hn]; rfl
          subst hn3
          subst hn
          obtain ⟨gl, hgl, _, _, _, _, _, _⟩ := own_cell HOL.out (by decide)
          subst hgl
          obtain ⟨y0, hy0⟩ : ∃ z, l.getD 0 0 = z := ⟨_, rfl⟩
          have HY0 := hide hy0
          obtain ⟨y1, hy1⟩ : ∃ z, l.getD 1 0 = z := ⟨_, rfl⟩
          have HY1 := hide hy1
          have hDB : D < w6.heap.size := by have h1 := HPR.out.dt; have h2 := HP6.out.ht; omega
          have HLL := hide (show l.length = 2 from HFT.out.1)
          clear hy0 hy1
          have HDB := hide hDB
          clear hDB
          have n0 : wr.cell? ⟨gl, 0, none⟩ = some (.int .i64 y0) := own_i64 HOL.out (by rw [HLL.out]; decide) HLL.out HY0.out
          have z1 : wr.cell? ⟨D, 1, none⟩ = some (.int .i64 0) := HPR.out.db.cell 1
          have f1 := HPR.out.db.frozen 1
          have hq0 : PSt w T X Z0 D A cap args #[.int .u8 k, .int .i64 y0, .int .i64 0, .int .i64 0, .int .i64 0, .int .i64 0, .int .i64 0, .int .u8 op, .slice none 0 0, .int .i64 0, .int .i64 0] (wr.setCell ⟨D, 1, none⟩ (.int .i64 y0)) := (HPR.out).set 1 (.int .i64 y0)
          have hl0 := own_set_farK (p := ⟨D, 1, none⟩) (HOL.out) HDB.out (.int .i64 y0)
          obtain ⟨x0w, hw0⟩ : ∃ z, (wr.setCell ⟨D, 1, none⟩ (.int .i64 y0)) = z := ⟨_, rfl⟩
          rw [hw0] at hq0 hl0
          have HQ0 := hide hq0
          have HL0 := hide hl0
          clear hq0 hl0
          go_upto_region 28 with (fail)
          try rw [hw0]
          clear n0 z1 f1 hw0
          have n1 : x0w.cell? ⟨gl, 1, none⟩ = some (.int .i64 y1) := own_i64 HL0.out (by rw [HLL.out]; decide) HLL.out HY1.out
          have z4 : x0w.cell? ⟨D, 4, none⟩ = some (.int .i64 0) := HQ0.out.db.cell 4
          have f4 := HQ0.out.db.frozen 4
          have hq1 : PSt w T X Z0 D A cap args #[.int .u8 k, .int .i64 y0, .int .i64 0, .int .i64 0, .int .i64 y1, .int .i64 0, .int .i64 0, .int .u8 op, .slice none 0 0, .int .i64 0, .int .i64 0] (x0w.setCell ⟨D, 4, none⟩ (.int .i64 y1)) := (HQ0.out).set 4 (.int .i64 y1)
          have hl1 := own_set_farK (p := ⟨D, 4, none⟩) (HL0.out) HDB.out (.int .i64 y1)
          obtain ⟨x1w, hw1⟩ : ∃ z, (x0w.setCell ⟨D, 4, none⟩ (.int .i64 y1)) = z := ⟨_, rfl⟩
          rw [hw1] at hq1 hl1
          have HQ1 := hide hq1
          have HL1 := hide hl1
          clear hq1 hl1
          go_wp2_with fail
          clear n1 z4 f4
          have FP : FldP w T X Z0 D A cap args k op l x1w := ⟨{ zeroC with k := k, op := op, co := y0, va := y1 }, none, 0, by
            have hll := HLL.out
            simp [setB, USE.out, hll, ← HY0.out, ← HY1.out], HQ1.out, ⟨rfl, .inl ⟨rfl, rfl⟩⟩⟩
          refine Met.intro ?_
          go_step
          (repeat apply Exists.intro)
          refine And.intro ?relm10 ?frm10
          case frm10 => with_reducible rfl
          exact FP
        · have USE := hide e
          have eU : U.toList = [99, 107] := by rw [← HU.out, hu, ByteArray.toList_eq]
          have hb1 : bl = false := by rw [← HBL.out, eU]; decide
          subst hb1
          have ea : (argsOf k).1 = 3 := by rw [args_least HKC.out (by rw [e]; decide), e]; decide
          obtain ⟨a2, ha2⟩ : ∃ z, (argsOf k).2 = z := ⟨_, rfl⟩
          have AB := hide (args_b k wr)
          rw [ea, ha2] at AB
          clear e hu ea ha2
          go_wp2_with fail
          refine AB.out.mono ?_
          rintro e wrc ⟨rfl, hwrc⟩
          obtain rfl : wr = wrc := hwrc
          by_cases hn : n2 = 3
          rotate_left
          · have hnI : ¬ (n2 : Int) = 3 := by omega
            have hsn : setB k op l = none := by
              have hll := HFT.out.1
              simp [setB, USE.out, hll, hn]
            have WHY : Hid (ParsedAs s none) := hide (parsedB_no (by rw [RDS.out, hsn]))
            clear hsn hn
            have q0 : wr.cell? ⟨Z0, 0, none⟩ = some (.int .u8 0) := HPR.out.zb.cell 0
            have q1 : wr.cell? ⟨Z0, 1, none⟩ = some (.int .i64 0) := HPR.out.zb.cell 1
            have q2 : wr.cell? ⟨Z0, 2, none⟩ = some (.int .i64 0) := HPR.out.zb.cell 2
            have q3 : wr.cell? ⟨Z0, 3, none⟩ = some (.int .i64 0) := HPR.out.zb.cell 3
            have q4 : wr.cell? ⟨Z0, 4, none⟩ = some (.int .i64 0) := HPR.out.zb.cell 4
            have q5 : wr.cell? ⟨Z0, 5, none⟩ = some (.int .i64 0) := HPR.out.zb.cell 5
            have q6 : wr.cell? ⟨Z0, 6, none⟩ = some (.int .i64 0) := HPR.out.zb.cell 6
            have q7 : wr.cell? ⟨Z0, 7, none⟩ = some (.int .u8 0) := HPR.out.zb.cell 7
            have q8 : wr.cell? ⟨Z0, 8, none⟩ = some (.slice none 0 0) := HPR.out.zb.cell 8
            have q9 : wr.cell? ⟨Z0, 9, none⟩ = some (.int .i64 0) := HPR.out.zb.cell 9
            have q10 : wr.cell? ⟨Z0, 10, none⟩ = some (.int .i64 0) := HPR.out.zb.cell 10
            have kz := HPR.out.xb
            have bz := HPR.out.low
            have z0 : wr.cell? ⟨X, 0, none⟩ = some (.int .u8 0) := kz.cell 0
            have z1 : wr.cell? ⟨X, 1, none⟩ = some (.int .i64 0) := kz.cell 1
            have z2 : wr.cell? ⟨X, 2, none⟩ = some (.int .i64 0) := kz.cell 2
            have z3 : wr.cell? ⟨X, 3, none⟩ = some (.int .i64 0) := kz.cell 3
            have z4 : wr.cell? ⟨X, 4, none⟩ = some (.int .i64 0) := kz.cell 4
            have z5 : wr.cell? ⟨X, 5, none⟩ = some (.int .i64 0) := kz.cell 5
            have z6 : wr.cell? ⟨X, 6, none⟩ = some (.int .i64 0) := kz.cell 6
            have z7 : wr.cell? ⟨X, 7, none⟩ = some (.int .u8 0) := kz.cell 7
            have z8 : wr.cell? ⟨X, 8, none⟩ = some (.slice none 0 0) := kz.cell 8
            have z9 : wr.cell? ⟨X, 9, none⟩ = some (.int .i64 0) := kz.cell 9
            have z10 : wr.cell? ⟨X, 10, none⟩ = some (.int .i64 0) := kz.cell 10
            have f0 := kz.frozen 0
            have f1 := kz.frozen 1
            have f2 := kz.frozen 2
            have f3 := kz.frozen 3
            have f4 := kz.frozen 4
            have f5 := kz.frozen 5
            have f6 := kz.frozen 6
            have f7 := kz.frozen 7
            have f8 := kz.frozen 8
            have f9 := kz.frozen 9
            have f10 := kz.frozen 10
            have k9 := put11 kz (.int .u8 0) (.int .i64 0) (.int .i64 0) (.int .i64 0) (.int .i64 0) (.int .i64 0) (.int .i64 0) (.int .u8 0) (.slice none 0 0) (.int .i64 0) (.int .i64 0)
            have b9 := bel11 bz (.int .u8 0) (.int .i64 0) (.int .i64 0) (.int .i64 0) (.int .i64 0) (.int .i64 0) (.int .i64 0) (.int .u8 0) (.slice none 0 0) (.int .i64 0) (.int .i64 0)
            obtain ⟨w9, hw9⟩ : ∃ z, (((((((((((wr.setCell ⟨X, 0, none⟩ (.int .u8 0)).setCell ⟨X, 1, none⟩ (.int .i64 0)).setCell ⟨X, 2, none⟩ (.int .i64 0)).setCell ⟨X, 3, none⟩ (.int .i64 0)).setCell ⟨X, 4, none⟩ (.int .i64 0)).setCell ⟨X, 5, none⟩ (.int .i64 0)).setCell ⟨X, 6, none⟩ (.int .i64 0)).setCell ⟨X, 7, none⟩ (.int .u8 0)).setCell ⟨X, 8, none⟩ (.slice none 0 0)).setCell ⟨X, 9, none⟩ (.int .i64 0)).setCell ⟨X, 10, none⟩ (.int .i64 0)) = z := ⟨_, rfl⟩
            rw [hw9] at k9 b9
            have u0 : w9.cell? ⟨X, 0, none⟩ = some (.int .u8 0) := k9.cell 0
            have u1 : w9.cell? ⟨X, 1, none⟩ = some (.int .i64 0) := k9.cell 1
            have u2 : w9.cell? ⟨X, 2, none⟩ = some (.int .i64 0) := k9.cell 2
            have u3 : w9.cell? ⟨X, 3, none⟩ = some (.int .i64 0) := k9.cell 3
            have u4 : w9.cell? ⟨X, 4, none⟩ = some (.int .i64 0) := k9.cell 4
            have u5 : w9.cell? ⟨X, 5, none⟩ = some (.int .i64 0) := k9.cell 5
            have u6 : w9.cell? ⟨X, 6, none⟩ = some (.int .i64 0) := k9.cell 6
            have u7 : w9.cell? ⟨X, 7, none⟩ = some (.int .u8 0) := k9.cell 7
            have u8 : w9.cell? ⟨X, 8, none⟩ = some (.slice none 0 0) := k9.cell 8
            have u9 : w9.cell? ⟨X, 9, none⟩ = some (.int .i64 0) := k9.cell 9
            have u10 : w9.cell? ⟨X, 10, none⟩ = some (.int .i64 0) := k9.cell 10
            have HB9 := hide b9
            clear b9 k9
            go_wp2_with fail
            exact bodyPost_ret (v := .tuple #[.agg #[.int .u8 0, .int .i64 0, .int .i64 0, .int .i64 0, .int .i64 0, .int .i64 0, .int .i64 0, .int .u8 0, .slice none 0 0, .int .i64 0, .int .i64 0], .int .i64 160]) (by simp [results, Tryd.results10, go_sem, u0, u1, u2, u3, u4, u5, u6, u7, u8, u9, u10]) rfl ⟨.inl ⟨WHY.out, rfl⟩, by rw [HX.out]; exact HB9.out⟩
          have hn3 : nI = 3 := by rw [← HNI.out, hn]; rfl
          subst hn3
          subst hn
          obtain ⟨gl, hgl, _, _, _, _, _, _⟩ := own_cell HOL.out (by decide)
          subst hgl
          obtain ⟨y0, hy0⟩ : ∃ z, l.getD 0 0 = z := ⟨_, rfl⟩
          have HY0 := hide hy0
          obtain ⟨y1, hy1⟩ : ∃ z, l.getD 1 0 = z := ⟨_, rfl⟩
          have HY1 := hide hy1
          obtain ⟨y2, hy2⟩ : ∃ z, l.getD 2 0 = z := ⟨_, rfl⟩
          have HY2 := hide hy2
          have hDB : D < w6.heap.size := by have h1 := HPR.out.dt; have h2 := HP6.out.ht; omega
          have HLL := hide (show l.length = 3 from HFT.out.1)
          clear hy0 hy1 hy2
          have HDB := hide hDB
          clear hDB
          have n0 : wr.cell? ⟨gl, 0, none⟩ = some (.int .i64 y0) := own_i64 HOL.out (by rw [HLL.out]; decide) HLL.out HY0.out
          have z1 : wr.cell? ⟨D, 1, none⟩ = some (.int .i64 0) := HPR.out.db.cell 1
          have f1 := HPR.out.db.frozen 1
          have hq0 : PSt w T X Z0 D A cap args #[.int .u8 k, .int .i64 y0, .int .i64 0, .int .i64 0, .int .i64 0, .int .i64 0, .int .i64 0, .int .u8 op, .slice none 0 0, .int .i64 0, .int .i64 0] (wr.setCell ⟨D, 1, none⟩ (.int .i64 y0)) := (HPR.out).set 1 (.int .i64 y0)
          have hl0 := own_set_farK (p := ⟨D, 1, none⟩) (HOL.out) HDB.out (.int .i64 y0)
          obtain ⟨x0w, hw0⟩ : ∃ z, (wr.setCell ⟨D, 1, none⟩ (.int .i64 y0)) = z := ⟨_, rfl⟩
          rw [hw0] at hq0 hl0
          have HQ0 := hide hq0
          have HL0 := hide hl0
          clear hq0 hl0
          go_upto_region 28 with (fail)
          try rw [hw0]
          clear n0 z1 f1 hw0
          have n1 : x0w.cell? ⟨gl, 1, none⟩ = some (.int .i64 y1) := own_i64 HL0.out (by rw [HLL.out]; decide) HLL.out HY1.out
          have n2 : x0w.cell? ⟨gl, 2, none⟩ = some (.int .i64 y2) := own_i64 HL0.out (by rw [HLL.out]; decide) HLL.out HY2.out
          have z9 : x0w.cell? ⟨D, 9, none⟩ = some (.int .i64 0) := HQ0.out.db.cell 9
          have f9 := HQ0.out.db.frozen 9
          have z10 : x0w.cell? ⟨D, 10, none⟩ = some (.int .i64 0) := HQ0.out.db.cell 10
          have f10 := HQ0.out.db.frozen 10
          have hx0 := HQ0.out.set 9 (.int .i64 y1)
          have ho0 := own_set_farK (p := ⟨D, 9, none⟩) HL0.out HDB.out (.int .i64 y1)
          have z10_0 : (x0w.setCell ⟨D, 9, none⟩ (.int .i64 y1)).cell? ⟨D, 10, none⟩ = some (.int .i64 0) := hx0.db.cell 10
          have f10_0 := hx0.db.frozen 10
          have n0_1 : (x0w.setCell ⟨D, 9, none⟩ (.int .i64 y1)).cell? ⟨gl, 1, none⟩ = some (.int .i64 y1) := own_i64 ho0 (by rw [HLL.out]; decide) HLL.out HY1.out
          have n0_2 : (x0w.setCell ⟨D, 9, none⟩ (.int .i64 y1)).cell? ⟨gl, 2, none⟩ = some (.int .i64 y2) := own_i64 ho0 (by rw [HLL.out]; decide) HLL.out HY2.out
          have hx1 := HQ0.out.set 10 (.int .i64 y2)
          have ho1 := own_set_farK (p := ⟨D, 10, none⟩) HL0.out HDB.out (.int .i64 y2)
          have z9_1 : (x0w.setCell ⟨D, 10, none⟩ (.int .i64 y2)).cell? ⟨D, 9, none⟩ = some (.int .i64 0) := hx1.db.cell 9
          have f9_1 := hx1.db.frozen 9
          have n1_1 : (x0w.setCell ⟨D, 10, none⟩ (.int .i64 y2)).cell? ⟨gl, 1, none⟩ = some (.int .i64 y1) := own_i64 ho1 (by rw [HLL.out]; decide) HLL.out HY1.out
          have n1_2 : (x0w.setCell ⟨D, 10, none⟩ (.int .i64 y2)).cell? ⟨gl, 2, none⟩ = some (.int .i64 y2) := own_i64 ho1 (by rw [HLL.out]; decide) HLL.out HY2.out
          have hq1 : PSt w T X Z0 D A cap args #[.int .u8 k, .int .i64 y0, .int .i64 0, .int .i64 0, .int .i64 0, .int .i64 0, .int .i64 0, .int .u8 op, .slice none 0 0, .int .i64 y1, .int .i64 y2] ((x0w.setCell ⟨D, 9, none⟩ (.int .i64 y1)).setCell ⟨D, 10, none⟩ (.int .i64 y2)) := ((HQ0.out).set 9 (.int .i64 y1)).set 10 (.int .i64 y2)
          have hl1 := own_set_farK (p := ⟨D, 10, none⟩) (own_set_farK (p := ⟨D, 9, none⟩) (HL0.out) HDB.out (.int .i64 y1)) HDB.out (.int .i64 y2)
          clear hx0 ho0 hx1 ho1
          have hq1 := hq1.on (Below.refl _ _).drew
          have hl1 := own_belowR hl1 (Below.refl _ _).drew
          have HQ1 := hide hq1
          have HL1 := hide hl1
          clear hq1 hl1
          go_upto_region 42 with (fail)
          go_region
          obtain ⟨x1w, hw1⟩ : ∃ z, ((x0w.setCell ⟨D, 9, none⟩ (.int .i64 y1)).setCell ⟨D, 10, none⟩ (.int .i64 y2)).drew = z := ⟨_, rfl⟩
          rw [hw1] at HQ1 HL1 ⊢
          clear n1 n2 z9 f9 z10 f10 hw1
          clear n0_1 n0_2 n1_1 n1_2 z10_0 f10_0 z9_1 f9_1
          go_wp2_with fail
          have FP : FldP w T X Z0 D A cap args k op l x1w := ⟨{ zeroC with k := k, op := op, co := y0, cl := y1, ky := y2 }, none, 0, by
            have hll := HLL.out
            simp [setB, USE.out, hll, ← HY0.out, ← HY1.out, ← HY2.out], HQ1.out, ⟨rfl, .inl ⟨rfl, rfl⟩⟩⟩
          refine Met.intro ?_
          go_step
          (repeat apply Exists.intro)
          refine And.intro ?relm11 ?frm11
          case frm11 => with_reducible rfl
          exact FP
      obtain ⟨c, rq, rc, hset, hp9, ho9⟩ := hcut
      obtain ⟨w9, hw9⟩ : ∃ z, z = wc := ⟨_, rfl⟩
      subst hw9
      have hsb := setB_ok HKR.out HOR.out HFT.out.2 hset
      have HP9 := hide hp9
      have HO9 := hide ho9
      have RDC : Hid (readB s = some c) := hide (by rw [RDS.out, hset])
      have OK := hide hsb.1
      have RL := hide (show c.rq.length ≤ s.length + 1 by
        have h1 := hsb.2
        have h2 := HFT.out.1
        have h3 := HN2.out
        have h4 := ARG.out.2.1
        omega)
      have TX := hide (Text_b c rq rc w9 (own_row ho9 rfl) (by have := RL.out; have := HS.out; omega) hsb.1)
      have q0 : w9.cell? ⟨D, 0, none⟩ = some (.int .u8 c.k) := hp9.db.cell 0
      have q1 : w9.cell? ⟨D, 1, none⟩ = some (.int .i64 c.co) := hp9.db.cell 1
      have q2 : w9.cell? ⟨D, 2, none⟩ = some (.int .i64 c.pe) := hp9.db.cell 2
      have q3 : w9.cell? ⟨D, 3, none⟩ = some (.int .i64 c.tg) := hp9.db.cell 3
      have q4 : w9.cell? ⟨D, 4, none⟩ = some (.int .i64 c.va) := hp9.db.cell 4
      have q5 : w9.cell? ⟨D, 5, none⟩ = some (.int .i64 c.sz) := hp9.db.cell 5
      have q6 : w9.cell? ⟨D, 6, none⟩ = some (.int .i64 c.ro) := hp9.db.cell 6
      have q7 : w9.cell? ⟨D, 7, none⟩ = some (.int .u8 c.op) := hp9.db.cell 7
      have q8 : w9.cell? ⟨D, 8, none⟩ = some (.slice rq c.rq.length rc) := hp9.db.cell 8
      have q9 : w9.cell? ⟨D, 9, none⟩ = some (.int .i64 c.cl) := hp9.db.cell 9
      have q10 : w9.cell? ⟨D, 10, none⟩ = some (.int .i64 c.ky) := hp9.db.cell 10
      clear hp9 ho9 hset hsb d0
      go_upto_region 43 with (fail)
      go_wp2_with fail
      refine TX.out.mono ?_
      rintro e w10 ⟨ht, hb10⟩
      have HPA := hide (HP9.out.on hb10)
      have HOA := hide (own_belowR HO9.out hb10)
      clear hb10 TX HO9 q0 q1 q2 q3 q4 q5 q6 q7 q8 q9 q10
      rcases ht with ⟨ht, rfl⟩ | ⟨hn, rfl⟩
      rotate_left
      · have WHY := hide (parsedB_other RDC.out (fun h => hn h.1))
        clear hn
        have q0 : w10.cell? ⟨Z0, 0, none⟩ = some (.int .u8 0) := HPA.out.zb.cell 0
        have q1 : w10.cell? ⟨Z0, 1, none⟩ = some (.int .i64 0) := HPA.out.zb.cell 1
        have q2 : w10.cell? ⟨Z0, 2, none⟩ = some (.int .i64 0) := HPA.out.zb.cell 2
        have q3 : w10.cell? ⟨Z0, 3, none⟩ = some (.int .i64 0) := HPA.out.zb.cell 3
        have q4 : w10.cell? ⟨Z0, 4, none⟩ = some (.int .i64 0) := HPA.out.zb.cell 4
        have q5 : w10.cell? ⟨Z0, 5, none⟩ = some (.int .i64 0) := HPA.out.zb.cell 5
        have q6 : w10.cell? ⟨Z0, 6, none⟩ = some (.int .i64 0) := HPA.out.zb.cell 6
        have q7 : w10.cell? ⟨Z0, 7, none⟩ = some (.int .u8 0) := HPA.out.zb.cell 7
        have q8 : w10.cell? ⟨Z0, 8, none⟩ = some (.slice none 0 0) := HPA.out.zb.cell 8
        have q9 : w10.cell? ⟨Z0, 9, none⟩ = some (.int .i64 0) := HPA.out.zb.cell 9
        have q10 : w10.cell? ⟨Z0, 10, none⟩ = some (.int .i64 0) := HPA.out.zb.cell 10
        have kz := HPA.out.xb
        have bz := HPA.out.low
        have z0 : w10.cell? ⟨X, 0, none⟩ = some (.int .u8 0) := kz.cell 0
        have z1 : w10.cell? ⟨X, 1, none⟩ = some (.int .i64 0) := kz.cell 1
        have z2 : w10.cell? ⟨X, 2, none⟩ = some (.int .i64 0) := kz.cell 2
        have z3 : w10.cell? ⟨X, 3, none⟩ = some (.int .i64 0) := kz.cell 3
        have z4 : w10.cell? ⟨X, 4, none⟩ = some (.int .i64 0) := kz.cell 4
        have z5 : w10.cell? ⟨X, 5, none⟩ = some (.int .i64 0) := kz.cell 5
        have z6 : w10.cell? ⟨X, 6, none⟩ = some (.int .i64 0) := kz.cell 6
        have z7 : w10.cell? ⟨X, 7, none⟩ = some (.int .u8 0) := kz.cell 7
        have z8 : w10.cell? ⟨X, 8, none⟩ = some (.slice none 0 0) := kz.cell 8
        have z9 : w10.cell? ⟨X, 9, none⟩ = some (.int .i64 0) := kz.cell 9
        have z10 : w10.cell? ⟨X, 10, none⟩ = some (.int .i64 0) := kz.cell 10
        have f0 := kz.frozen 0
        have f1 := kz.frozen 1
        have f2 := kz.frozen 2
        have f3 := kz.frozen 3
        have f4 := kz.frozen 4
        have f5 := kz.frozen 5
        have f6 := kz.frozen 6
        have f7 := kz.frozen 7
        have f8 := kz.frozen 8
        have f9 := kz.frozen 9
        have f10 := kz.frozen 10
        have k9 := put11 kz (.int .u8 0) (.int .i64 0) (.int .i64 0) (.int .i64 0) (.int .i64 0) (.int .i64 0) (.int .i64 0) (.int .u8 0) (.slice none 0 0) (.int .i64 0) (.int .i64 0)
        have b9 := bel11 bz (.int .u8 0) (.int .i64 0) (.int .i64 0) (.int .i64 0) (.int .i64 0) (.int .i64 0) (.int .i64 0) (.int .u8 0) (.slice none 0 0) (.int .i64 0) (.int .i64 0)
        obtain ⟨w9, hw9⟩ : ∃ z, (((((((((((w10.setCell ⟨X, 0, none⟩ (.int .u8 0)).setCell ⟨X, 1, none⟩ (.int .i64 0)).setCell ⟨X, 2, none⟩ (.int .i64 0)).setCell ⟨X, 3, none⟩ (.int .i64 0)).setCell ⟨X, 4, none⟩ (.int .i64 0)).setCell ⟨X, 5, none⟩ (.int .i64 0)).setCell ⟨X, 6, none⟩ (.int .i64 0)).setCell ⟨X, 7, none⟩ (.int .u8 0)).setCell ⟨X, 8, none⟩ (.slice none 0 0)).setCell ⟨X, 9, none⟩ (.int .i64 0)).setCell ⟨X, 10, none⟩ (.int .i64 0)) = z := ⟨_, rfl⟩
        rw [hw9] at k9 b9
        have u0 : w9.cell? ⟨X, 0, none⟩ = some (.int .u8 0) := k9.cell 0
        have u1 : w9.cell? ⟨X, 1, none⟩ = some (.int .i64 0) := k9.cell 1
        have u2 : w9.cell? ⟨X, 2, none⟩ = some (.int .i64 0) := k9.cell 2
        have u3 : w9.cell? ⟨X, 3, none⟩ = some (.int .i64 0) := k9.cell 3
        have u4 : w9.cell? ⟨X, 4, none⟩ = some (.int .i64 0) := k9.cell 4
        have u5 : w9.cell? ⟨X, 5, none⟩ = some (.int .i64 0) := k9.cell 5
        have u6 : w9.cell? ⟨X, 6, none⟩ = some (.int .i64 0) := k9.cell 6
        have u7 : w9.cell? ⟨X, 7, none⟩ = some (.int .u8 0) := k9.cell 7
        have u8 : w9.cell? ⟨X, 8, none⟩ = some (.slice none 0 0) := k9.cell 8
        have u9 : w9.cell? ⟨X, 9, none⟩ = some (.int .i64 0) := k9.cell 9
        have u10 : w9.cell? ⟨X, 10, none⟩ = some (.int .i64 0) := k9.cell 10
        have HB9 := hide b9
        clear b9 k9
        go_wp2_with fail
        exact bodyPost_ret (v := .tuple #[.agg #[.int .u8 0, .int .i64 0, .int .i64 0, .int .i64 0, .int .i64 0, .int .i64 0, .int .i64 0, .int .u8 0, .slice none 0 0, .int .i64 0, .int .i64 0], .int .i64 160]) (by simp [results, Tryd.results10, go_sem, u0, u1, u2, u3, u4, u5, u6, u7, u8, u9, u10]) rfl ⟨.inl ⟨WHY.out, rfl⟩, by rw [HX.out]; exact HB9.out⟩
      by_cases he : textOf c = s
      rotate_left
      · have WHY := hide (parsedB_other RDC.out (fun h => he h.2))
        have eb : ((bytes (textOf c)).toList == (bytes s).toList) = false := by rw [beq_word]; exact decide_eq_false he
        clear ht he
        have q0 : w10.cell? ⟨Z0, 0, none⟩ = some (.int .u8 0) := HPA.out.zb.cell 0
        have q1 : w10.cell? ⟨Z0, 1, none⟩ = some (.int .i64 0) := HPA.out.zb.cell 1
        have q2 : w10.cell? ⟨Z0, 2, none⟩ = some (.int .i64 0) := HPA.out.zb.cell 2
        have q3 : w10.cell? ⟨Z0, 3, none⟩ = some (.int .i64 0) := HPA.out.zb.cell 3
        have q4 : w10.cell? ⟨Z0, 4, none⟩ = some (.int .i64 0) := HPA.out.zb.cell 4
        have q5 : w10.cell? ⟨Z0, 5, none⟩ = some (.int .i64 0) := HPA.out.zb.cell 5
        have q6 : w10.cell? ⟨Z0, 6, none⟩ = some (.int .i64 0) := HPA.out.zb.cell 6
        have q7 : w10.cell? ⟨Z0, 7, none⟩ = some (.int .u8 0) := HPA.out.zb.cell 7
        have q8 : w10.cell? ⟨Z0, 8, none⟩ = some (.slice none 0 0) := HPA.out.zb.cell 8
        have q9 : w10.cell? ⟨Z0, 9, none⟩ = some (.int .i64 0) := HPA.out.zb.cell 9
        have q10 : w10.cell? ⟨Z0, 10, none⟩ = some (.int .i64 0) := HPA.out.zb.cell 10
        have kz := HPA.out.xb
        have bz := HPA.out.low
        have z0 : w10.cell? ⟨X, 0, none⟩ = some (.int .u8 0) := kz.cell 0
        have z1 : w10.cell? ⟨X, 1, none⟩ = some (.int .i64 0) := kz.cell 1
        have z2 : w10.cell? ⟨X, 2, none⟩ = some (.int .i64 0) := kz.cell 2
        have z3 : w10.cell? ⟨X, 3, none⟩ = some (.int .i64 0) := kz.cell 3
        have z4 : w10.cell? ⟨X, 4, none⟩ = some (.int .i64 0) := kz.cell 4
        have z5 : w10.cell? ⟨X, 5, none⟩ = some (.int .i64 0) := kz.cell 5
        have z6 : w10.cell? ⟨X, 6, none⟩ = some (.int .i64 0) := kz.cell 6
        have z7 : w10.cell? ⟨X, 7, none⟩ = some (.int .u8 0) := kz.cell 7
        have z8 : w10.cell? ⟨X, 8, none⟩ = some (.slice none 0 0) := kz.cell 8
        have z9 : w10.cell? ⟨X, 9, none⟩ = some (.int .i64 0) := kz.cell 9
        have z10 : w10.cell? ⟨X, 10, none⟩ = some (.int .i64 0) := kz.cell 10
        have f0 := kz.frozen 0
        have f1 := kz.frozen 1
        have f2 := kz.frozen 2
        have f3 := kz.frozen 3
        have f4 := kz.frozen 4
        have f5 := kz.frozen 5
        have f6 := kz.frozen 6
        have f7 := kz.frozen 7
        have f8 := kz.frozen 8
        have f9 := kz.frozen 9
        have f10 := kz.frozen 10
        have k9 := put11 kz (.int .u8 0) (.int .i64 0) (.int .i64 0) (.int .i64 0) (.int .i64 0) (.int .i64 0) (.int .i64 0) (.int .u8 0) (.slice none 0 0) (.int .i64 0) (.int .i64 0)
        have b9 := bel11 bz (.int .u8 0) (.int .i64 0) (.int .i64 0) (.int .i64 0) (.int .i64 0) (.int .i64 0) (.int .i64 0) (.int .u8 0) (.slice none 0 0) (.int .i64 0) (.int .i64 0)
        obtain ⟨w9, hw9⟩ : ∃ z, (((((((((((w10.setCell ⟨X, 0, none⟩ (.int .u8 0)).setCell ⟨X, 1, none⟩ (.int .i64 0)).setCell ⟨X, 2, none⟩ (.int .i64 0)).setCell ⟨X, 3, none⟩ (.int .i64 0)).setCell ⟨X, 4, none⟩ (.int .i64 0)).setCell ⟨X, 5, none⟩ (.int .i64 0)).setCell ⟨X, 6, none⟩ (.int .i64 0)).setCell ⟨X, 7, none⟩ (.int .u8 0)).setCell ⟨X, 8, none⟩ (.slice none 0 0)).setCell ⟨X, 9, none⟩ (.int .i64 0)).setCell ⟨X, 10, none⟩ (.int .i64 0)) = z := ⟨_, rfl⟩
        rw [hw9] at k9 b9
        have u0 : w9.cell? ⟨X, 0, none⟩ = some (.int .u8 0) := k9.cell 0
        have u1 : w9.cell? ⟨X, 1, none⟩ = some (.int .i64 0) := k9.cell 1
        have u2 : w9.cell? ⟨X, 2, none⟩ = some (.int .i64 0) := k9.cell 2
        have u3 : w9.cell? ⟨X, 3, none⟩ = some (.int .i64 0) := k9.cell 3
        have u4 : w9.cell? ⟨X, 4, none⟩ = some (.int .i64 0) := k9.cell 4
        have u5 : w9.cell? ⟨X, 5, none⟩ = some (.int .i64 0) := k9.cell 5
        have u6 : w9.cell? ⟨X, 6, none⟩ = some (.int .i64 0) := k9.cell 6
        have u7 : w9.cell? ⟨X, 7, none⟩ = some (.int .u8 0) := k9.cell 7
        have u8 : w9.cell? ⟨X, 8, none⟩ = some (.slice none 0 0) := k9.cell 8
        have u9 : w9.cell? ⟨X, 9, none⟩ = some (.int .i64 0) := k9.cell 9
        have u10 : w9.cell? ⟨X, 10, none⟩ = some (.int .i64 0) := k9.cell 10
        have HB9 := hide b9
        clear b9 k9
        go_wp2_with fail
        exact bodyPost_ret (v := .tuple #[.agg #[.int .u8 0, .int .i64 0, .int .i64 0, .int .i64 0, .int .i64 0, .int .i64 0, .int .i64 0, .int .u8 0, .slice none 0 0, .int .i64 0, .int .i64 0], .int .i64 160]) (by simp [results, Tryd.results10, go_sem, u0, u1, u2, u3, u4, u5, u6, u7, u8, u9, u10]) rfl ⟨.inl ⟨WHY.out, rfl⟩, by rw [HX.out]; exact HB9.out⟩
      have WHY := hide (parsed_yes OK.out ht he)
      have eb : ((bytes (textOf c)).toList == (bytes s).toList) = true := by rw [beq_word]; exact decide_eq_true he
      have hXT := HPA.out.xt
      have OWF := hide (fun (w' : World) (h : Only [X] w10 w') => own_only HOA.out h (by intro x hx; rw [List.mem_singleton.1 hx]; exact hXT))
      clear ht he hXT
      have kz := HPA.out.xb
      have bz := HPA.out.low
      have q0 : w10.cell? ⟨D, 0, none⟩ = some (.int .u8 c.k) := HPA.out.db.cell 0
      have q1 : w10.cell? ⟨D, 1, none⟩ = some (.int .i64 c.co) := HPA.out.db.cell 1
      have q2 : w10.cell? ⟨D, 2, none⟩ = some (.int .i64 c.pe) := HPA.out.db.cell 2
      have q3 : w10.cell? ⟨D, 3, none⟩ = some (.int .i64 c.tg) := HPA.out.db.cell 3
      have q4 : w10.cell? ⟨D, 4, none⟩ = some (.int .i64 c.va) := HPA.out.db.cell 4
      have q5 : w10.cell? ⟨D, 5, none⟩ = some (.int .i64 c.sz) := HPA.out.db.cell 5
      have q6 : w10.cell? ⟨D, 6, none⟩ = some (.int .i64 c.ro) := HPA.out.db.cell 6
      have q7 : w10.cell? ⟨D, 7, none⟩ = some (.int .u8 c.op) := HPA.out.db.cell 7
      have q8 : w10.cell? ⟨D, 8, none⟩ = some (.slice rq c.rq.length rc) := HPA.out.db.cell 8
      have q9 : w10.cell? ⟨D, 9, none⟩ = some (.int .i64 c.cl) := HPA.out.db.cell 9
      have q10 : w10.cell? ⟨D, 10, none⟩ = some (.int .i64 c.ky) := HPA.out.db.cell 10
      have z0 : w10.cell? ⟨X, 0, none⟩ = some (.int .u8 0) := kz.cell 0
      have z1 : w10.cell? ⟨X, 1, none⟩ = some (.int .i64 0) := kz.cell 1
      have z2 : w10.cell? ⟨X, 2, none⟩ = some (.int .i64 0) := kz.cell 2
      have z3 : w10.cell? ⟨X, 3, none⟩ = some (.int .i64 0) := kz.cell 3
      have z4 : w10.cell? ⟨X, 4, none⟩ = some (.int .i64 0) := kz.cell 4
      have z5 : w10.cell? ⟨X, 5, none⟩ = some (.int .i64 0) := kz.cell 5
      have z6 : w10.cell? ⟨X, 6, none⟩ = some (.int .i64 0) := kz.cell 6
      have z7 : w10.cell? ⟨X, 7, none⟩ = some (.int .u8 0) := kz.cell 7
      have z8 : w10.cell? ⟨X, 8, none⟩ = some (.slice none 0 0) := kz.cell 8
      have z9 : w10.cell? ⟨X, 9, none⟩ = some (.int .i64 0) := kz.cell 9
      have z10 : w10.cell? ⟨X, 10, none⟩ = some (.int .i64 0) := kz.cell 10
      have f0 := kz.frozen 0
      have f1 := kz.frozen 1
      have f2 := kz.frozen 2
      have f3 := kz.frozen 3
      have f4 := kz.frozen 4
      have f5 := kz.frozen 5
      have f6 := kz.frozen 6
      have f7 := kz.frozen 7
      have f8 := kz.frozen 8
      have f9 := kz.frozen 9
      have f10 := kz.frozen 10
      have k9 := put11 kz (.int .u8 c.k) (.int .i64 c.co) (.int .i64 c.pe) (.int .i64 c.tg) (.int .i64 c.va) (.int .i64 c.sz) (.int .i64 c.ro) (.int .u8 c.op) (.slice rq c.rq.length rc) (.int .i64 c.cl) (.int .i64 c.ky)
      have b9 := bel11 bz (.int .u8 c.k) (.int .i64 c.co) (.int .i64 c.pe) (.int .i64 c.tg) (.int .i64 c.va) (.int .i64 c.sz) (.int .i64 c.ro) (.int .u8 c.op) (.slice rq c.rq.length rc) (.int .i64 c.cl) (.int .i64 c.ky)
      obtain ⟨wz, hwz⟩ : ∃ z, (((((((((((w10.setCell ⟨X, 0, none⟩ (.int .u8 c.k)).setCell ⟨X, 1, none⟩ (.int .i64 c.co)).setCell ⟨X, 2, none⟩ (.int .i64 c.pe)).setCell ⟨X, 3, none⟩ (.int .i64 c.tg)).setCell ⟨X, 4, none⟩ (.int .i64 c.va)).setCell ⟨X, 5, none⟩ (.int .i64 c.sz)).setCell ⟨X, 6, none⟩ (.int .i64 c.ro)).setCell ⟨X, 7, none⟩ (.int .u8 c.op)).setCell ⟨X, 8, none⟩ (.slice rq c.rq.length rc)).setCell ⟨X, 9, none⟩ (.int .i64 c.cl)).setCell ⟨X, 10, none⟩ (.int .i64 c.ky)) = z := ⟨_, rfl⟩
      rw [hwz] at k9 b9
      have u0 : wz.cell? ⟨X, 0, none⟩ = some (.int .u8 c.k) := k9.cell 0
      have u1 : wz.cell? ⟨X, 1, none⟩ = some (.int .i64 c.co) := k9.cell 1
      have u2 : wz.cell? ⟨X, 2, none⟩ = some (.int .i64 c.pe) := k9.cell 2
      have u3 : wz.cell? ⟨X, 3, none⟩ = some (.int .i64 c.tg) := k9.cell 3
      have u4 : wz.cell? ⟨X, 4, none⟩ = some (.int .i64 c.va) := k9.cell 4
      have u5 : wz.cell? ⟨X, 5, none⟩ = some (.int .i64 c.sz) := k9.cell 5
      have u6 : wz.cell? ⟨X, 6, none⟩ = some (.int .i64 c.ro) := k9.cell 6
      have u7 : wz.cell? ⟨X, 7, none⟩ = some (.int .u8 c.op) := k9.cell 7
      have u8 : wz.cell? ⟨X, 8, none⟩ = some (.slice rq c.rq.length rc) := k9.cell 8
      have u9 : wz.cell? ⟨X, 9, none⟩ = some (.int .i64 c.cl) := k9.cell 9
      have u10 : wz.cell? ⟨X, 10, none⟩ = some (.int .i64 c.ky) := k9.cell 10
      have HB9 := hide b9
      clear b9 k9
      have ONZ : Hid (Only [X] w10 wz) := hide (by
        rw [← hwz]
        exact Only.trans (Only.trans (Only.trans (Only.trans (Only.trans (Only.trans (Only.trans (Only.trans (Only.trans (Only.trans (Only.set_ _ _ (List.mem_singleton.2 rfl)) (Only.set_ _ _ (List.mem_singleton.2 rfl))) (Only.set_ _ _ (List.mem_singleton.2 rfl))) (Only.set_ _ _ (List.mem_singleton.2 rfl))) (Only.set_ _ _ (List.mem_singleton.2 rfl))) (Only.set_ _ _ (List.mem_singleton.2 rfl))) (Only.set_ _ _ (List.mem_singleton.2 rfl))) (Only.set_ _ _ (List.mem_singleton.2 rfl))) (Only.set_ _ _ (List.mem_singleton.2 rfl))) (Only.set_ _ _ (List.mem_singleton.2 rfl))) (Only.set_ _ _ (List.mem_singleton.2 rfl)))
      have OWN : Hid (wz.ownsRow w.heap.size 3 1 (.slice rq c.rq.length rc) c.rq.length (i64s c.rq)) := hide (own_wide (OWF.out wz ONZ.out) (by rw [HX.out]; exact Nat.le_of_lt HPA.out.xt))
      clear OWF
      go_wp2_with fail
      exact bodyPost_ret (v := .tuple #[.agg #[.int .u8 c.k, .int .i64 c.co, .int .i64 c.pe, .int .i64 c.tg, .int .i64 c.va, .int .i64 c.sz, .int .i64 c.ro, .int .u8 c.op, .slice rq c.rq.length rc, .int .i64 c.cl, .int .i64 c.ky], .int .i64 0]) (by simp [results, Tryd.results10, go_sem, u0, u1, u2, u3, u4, u5, u6, u7, u8, u9, u10]) rfl ⟨.inr ⟨c, rq, rc, WHY.out, OK.out, RL.out, rfl, OWN.out⟩, by rw [HX.out]; exact HB9.out⟩
end Cal
end Go.Proofs.YthcoelkpiflfeaaDoor
