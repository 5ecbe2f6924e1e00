/- The walk of the statement CallOpen. -/
import Derived.Test.YthcoelkpiflfeaaDoorRows
import Derived.Test.YthcoelkpiflfeaaDoorCtO
import Derived.Test.YthcoelkpiflfeaaDoorCtU
import Derived.Test.YthcoelkpiflfeaaDoorCtIn
import Derived.Test.YthcoelkpiflfeaaDoorCalN
import Derived.Test.YthcoelkpiflfeaaDoorCalH
import Derived.Test.YthcoelkpiflfeaaDoorSpJ
import Derived.Test.YthcoelkpiflfeaaDoorToldC
import Derived.Test.YthcoelkpiflfeaaDoorCtEnv
import Derived.Deep.CutRange
namespace Go.Proofs.YthcoelkpiflfeaaDoor.CallOpenW
open Go Go.RowKit Go.Lib Go.Proofs.YthcoelkpiflfeaaDoor Go.Proofs.YthcoelkpiflfeaaDoor.Grp Go.Proofs.YthcoelkpiflfeaaDoor.Cal
set_option linter.unusedVariables false
set_option linter.unusedSimpArgs false
theorem may_upto : mayL (Sp.upto 64) := by decide
set_option maxRecDepth 100000 in
set_option maxHeartbeats 32000000 in
theorem walk {H : Type} {enc : TypeId × Value → H} {base : Nat} (W : World) (HEN : Env W) (v0 : Value) (d0 : DataW H) (p0 : List MemPlace) (o0 : Value.okWide Tryd.prog W .any base 24 v0) (r0 : DataW.Trod enc Tryd.prog W 0 (fun _ => true) true 24 v0 d0 p0) (v1 : Value) (d1 : DataW H) (p1 : List MemPlace) (o1 : Value.okWide Tryd.prog W .any base 37 v1) (r1 : DataW.Trod enc Tryd.prog W 0 (fun _ => true) true 37 v1 d1 p1) :
    Calls Tryd.prog 6 #[v0, v1] W fun e w' => e = .returned (.bool true) ∧ Below W.heap.size W w' := by
  obtain ⟨c, ra, rc, rfl, hra, hok, hrc⟩ := call_in o0 r0 (fun _ => rfl)
  obtain ⟨key, A, l, gc, rfl, hrg⟩ := group_of o1 r1 (fun _ => rfl)
  clear o0 r0 o1 r1
  unfold Cl.A clA
  have b2 := ((Below.refl W.heap.size W).alloc (Nat.le_refl _) (.cells #[.int .u8 c.k, .int .i64 c.co, .int .i64 c.pe, .int .i64 c.tg, .int .i64 c.va, .int .i64 c.sz, .int .i64 c.ro, .int .u8 c.op, .slice ra c.rq.length rc, .int .i64 c.cl, .int .i64 c.ky] 24)).alloc (by simp) (.cells #[.string key, .slice A l.length gc] 37)
  have k0 := Blk.new W 24 #[.int .u8 c.k, .int .i64 c.co, .int .i64 c.pe, .int .i64 c.tg, .int .i64 c.va, .int .i64 c.sz, .int .i64 c.ro, .int .u8 c.op, .slice ra c.rq.length rc, .int .i64 c.cl, .int .i64 c.ky]
  have a1 := (Below.refl (W.alloc (.cells #[.int .u8 c.k, .int .i64 c.co, .int .i64 c.pe, .int .i64 c.tg, .int .i64 c.va, .int .i64 c.sz, .int .i64 c.ro, .int .u8 c.op, .slice ra c.rq.length rc, .int .i64 c.cl, .int .i64 c.ky] 24)).heap.size _).alloc (Nat.le_refl _) (.cells #[.string key, .slice A l.length gc] 37)
  have k0b := k0.below a1 k0.lt
  have k1 := Blk.new (W.alloc (.cells #[.int .u8 c.k, .int .i64 c.co, .int .i64 c.pe, .int .i64 c.tg, .int .i64 c.va, .int .i64 c.sz, .int .i64 c.ro, .int .u8 c.op, .slice ra c.rq.length rc, .int .i64 c.cl, .int .i64 c.ky] 24)) 37 #[.string key, .slice A l.length gc]
  rw [show (W.alloc (.cells #[.int .u8 c.k, .int .i64 c.co, .int .i64 c.pe, .int .i64 c.tg, .int .i64 c.va, .int .i64 c.sz, .int .i64 c.ro, .int .u8 c.op, .slice ra c.rq.length rc, .int .i64 c.cl, .int .i64 c.ky] 24)).heap.size = W.heap.size + 1 by simp] at k1
  go_enter Tryd.func6, Tryd.ntmps6
  go_upto_region 1 with (fail)
  obtain ⟨w2, hw2⟩ : ∃ y, (W.alloc (.cells #[.int .u8 c.k, .int .i64 c.co, .int .i64 c.pe, .int .i64 c.tg, .int .i64 c.va, .int .i64 c.sz, .int .i64 c.ro, .int .u8 c.op, .slice ra c.rq.length rc, .int .i64 c.cl, .int .i64 c.ky] 24)).alloc (.cells #[.string key, .slice A l.length gc] 37) = y := ⟨_, rfl⟩
  rw [hw2] at k0b k1 b2 ⊢
  have HEB := hide (fun (w' : World) (hb : Below W.heap.size W w') => HEN.below hb (Nat.le_refl _))
  have HRA := hide (fun (w' : World) (hb : Below W.heap.size W w') => hra.below hb)
  have HRG := hide (fun (w' : World) (hb : Below W.heap.size W w') => hrg.below hb)
  have HB2 := hide (And.intro b2 b2.size)
  obtain ⟨X, hX⟩ : ∃ X, W.heap.size = X := ⟨_, rfl⟩
  obtain ⟨Y, hY⟩ : ∃ Y, W.heap.size + 1 = Y := ⟨_, rfl⟩
  rw [hX] at k0b
  rw [hY] at k1
  rw [hX, show X + 1 = Y by rw [← hX]; exact hY]
  have KC2 := hide k0b
  have KG2 := hide k1
  have OK := hide hok
  have HRC := hide hrc
  have AW := hide (awake_c Told.told_a w2 (HEB.out w2 HB2.out.1))
  clear b2 k0 a1 k0b k1 hw2 hra hrg hok hrc HEN hX hY
  go_wp2_with fail
  refine AW.out.mono ?_
  rintro e w3 ⟨rfl, hb3⟩
  have HB3 := hide (And.intro (HB2.out.1.trans (hb3.mono HB2.out.2)) (Nat.le_trans HB2.out.2 hb3.size))
  have KC3 := hide (KC2.out.below hb3 KC2.out.lt)
  have KG3 := hide (KG2.out.below hb3 KG2.out.lt)
  clear hb3 AW KC2 KG2 HB2
  have x8 : w3.cell? ⟨X, 8, none⟩ = some (.slice ra c.rq.length rc) := KC3.out.cell 8
  have y1 : w3.cell? ⟨Y, 1, none⟩ = some (.slice A l.length gc) := KG3.out.cell 1
  by_cases g1 : 60 < c.rq.length
  · have g1I : (60 : Int) < (c.rq.length : Int) := by omega
    go_wp2_with fail
    go_ret
    exact ⟨rfl, HB3.out.1⟩
  have g1I : ¬ (60 : Int) < (c.rq.length : Int) := by omega
  by_cases g3 : 100 < l.length
  · have g3I : (100 : Int) < (l.length : Int) := by omega
    go_wp2_with fail
    go_ret
    exact ⟨rfl, HB3.out.1⟩
  have g3I : ¬ (100 : Int) < (l.length : Int) := by omega
  have HG1 := hide (show c.rq.length ≤ 60 by omega)
  have HG3 := hide (show l.length ≤ 100 by omega)
  have WO := hide (Sp.World_yes 64 w3 (by omega) (by omega))
  clear g1 g3
  go_wp2_with fail
  refine WO.out.mono ?_
  rintro e w4 ⟨g, rfl, hge, hbg, hb4⟩
  have HB4 := hide (And.intro (HB3.out.1.trans (hb4.mono HB3.out.2)) (Nat.le_trans HB3.out.2 hb4.size))
  have KC4 := hide (KC3.out.below hb4 KC3.out.lt)
  have KG4 := hide (KG3.out.below hb4 KG3.out.lt)
  have KW4 := hide hbg
  clear hb4 WO KC3 KG3 HB3 x8 y1 g1I g3I hge hbg
  have ba := (Below.refl w4.heap.size w4).alloc (Nat.le_refl _) (.cells #[.string ⟨#[]⟩, .slice (some ⟨g, 0, none⟩) 64 64] 37)
  have kp := Blk.new w4 37 #[.string ⟨#[]⟩, .slice (some ⟨g, 0, none⟩) 64 64]
  obtain ⟨w5, hww5⟩ : ∃ y, w4.alloc (.cells #[.string ⟨#[]⟩, .slice (some ⟨g, 0, none⟩) 64 64] 37) = y := ⟨_, rfl⟩
  obtain ⟨Z, hnZ⟩ : ∃ T, w4.heap.size = T := ⟨_, rfl⟩
  rw [hww5] at ba kp
  rw [hnZ] at kp
  have HWw5 := hide hww5
  have HNZ := hide hnZ
  have KZ := hide kp
  have HAZ := hide ba
  clear ba kp hww5 hnZ
  have HB5 := hide (And.intro (HB4.out.1.trans (HAZ.out.mono HB4.out.2)) (Nat.le_trans HB4.out.2 HAZ.out.size))
  have KC := hide (KC4.out.below HAZ.out KC4.out.lt)
  have KG := hide (KG4.out.below HAZ.out KG4.out.lt)
  have KW := hide (KW4.out.below HAZ.out KW4.out.lt)
  go_upto_region 6 with (fail)
  rw [HWw5.out, HNZ.out]
  clear KC4 KG4 KW4 HB4 HAZ HWw5 HNZ
  have NW := hide (fun (w' : World) (hb : Below w5.heap.size w5 w') => show NRow w' (some ⟨g, 0, none⟩) (Sp.upto 64) from fun _ => ⟨_, rfl, (KW.out.below hb KW.out.lt).lt, fun i hi => by
    rw [add_lit, (KW.out.below hb KW.out.lt).cell]
    simpa using Go.Proofs.YthcoelkpiflfeaaDoor.Grp.ints_at hi⟩)
  have MA := hide (fun (w' : World) (hb : Below w5.heap.size w5 w') => May_p c ra rc ⟨#[]⟩ (some ⟨g, 0, none⟩) 64 (Sp.upto 64) w' (HRA.out w' (HB5.out.1.trans (hb.mono HB5.out.2))) HRC.out (by have := HG1.out; omega) (NW.out w' hb) (by decide))
  have MG := hide (fun (w' : World) (hb : Below w5.heap.size w5 w') => May_p c ra rc key A gc l w' (HRA.out w' (HB5.out.1.trans (hb.mono HB5.out.2))) HRC.out (by have := HG1.out; omega) (HRG.out w' (HB5.out.1.trans (hb.mono HB5.out.2))) (by have := HG3.out; omega))
  have GM := hide (fun (w' : World) (hb : Below w5.heap.size w5 w') => May_a key A gc l w' (HRG.out w' (HB5.out.1.trans (hb.mono HB5.out.2))) (by have := HG3.out; omega))
  have M0 := hide (fun (w' : World) (hb : Below w5.heap.size w5 w') => May_p c ra rc ⟨#[]⟩ none 0 [] w' (HRA.out w' (HB5.out.1.trans (hb.mono HB5.out.2))) HRC.out (by have := HG1.out; omega) (fun h => absurd h (by decide)) (by decide))
  have TR := hide (fun (w' : World) (hb : Below w5.heap.size w5 w') => Trim_a c ra rc w' (HRA.out w' (HB5.out.1.trans (hb.mono HB5.out.2))) (by have := HG1.out; omega) OK.out.op)
  go_cut [43] from 26 to 42 (fun x wx => x = .bool false ∧ Below w5.heap.size w5 wx)
  case first =>
    have q0 : w5.cell? ⟨X, 0, none⟩ = some (.int .u8 c.k) := KC.out.cell 0
    have q1 : w5.cell? ⟨X, 1, none⟩ = some (.int .i64 c.co) := KC.out.cell 1
    have q2 : w5.cell? ⟨X, 2, none⟩ = some (.int .i64 c.pe) := KC.out.cell 2
    have q3 : w5.cell? ⟨X, 3, none⟩ = some (.int .i64 c.tg) := KC.out.cell 3
    have q4 : w5.cell? ⟨X, 4, none⟩ = some (.int .i64 c.va) := KC.out.cell 4
    have q5 : w5.cell? ⟨X, 5, none⟩ = some (.int .i64 c.sz) := KC.out.cell 5
    have q6 : w5.cell? ⟨X, 6, none⟩ = some (.int .i64 c.ro) := KC.out.cell 6
    have q7 : w5.cell? ⟨X, 7, none⟩ = some (.int .u8 c.op) := KC.out.cell 7
    have q8 : w5.cell? ⟨X, 8, none⟩ = some (.slice ra c.rq.length rc) := KC.out.cell 8
    have q9 : w5.cell? ⟨X, 9, none⟩ = some (.int .i64 c.cl) := KC.out.cell 9
    have q10 : w5.cell? ⟨X, 10, none⟩ = some (.int .i64 c.ky) := KC.out.cell 10
    have y0 : w5.cell? ⟨Y, 0, none⟩ = some (.string key) := KG.out.cell 0
    have y1 : w5.cell? ⟨Y, 1, none⟩ = some (.slice A l.length gc) := KG.out.cell 1
    have P0 := hide (MG.out w5 (Below.refl _ _))
    by_cases hm : mayC c l
    · rw [decide_eq_true hm] at P0
      have HMU : mayC c (Sp.upto 64) := may_more hm may_upto hm.1.2.1
      have HML : mayL l := hm.1
      have P1 := hide (fun w' hb => MA.out w' hb)
      rw [decide_eq_true HMU] at P1
      have P2 := hide (fun w' hb => GM.out w' hb)
      rw [decide_eq_true HML] at P2
      clear hm HMU HML
      go_wp2_with fail
      refine P0.out.mono ?_
      rintro e wa ⟨rfl, hba⟩
      have KCa := KC.out.below hba KC.out.lt
      have KZa := KZ.out.below hba KZ.out.lt
      have KGa := KG.out.below hba KG.out.lt
      have HBa := hide hba
      have p0 : wa.cell? ⟨X, 0, none⟩ = some (.int .u8 c.k) := KCa.cell 0
      have p1 : wa.cell? ⟨X, 1, none⟩ = some (.int .i64 c.co) := KCa.cell 1
      have p2 : wa.cell? ⟨X, 2, none⟩ = some (.int .i64 c.pe) := KCa.cell 2
      have p3 : wa.cell? ⟨X, 3, none⟩ = some (.int .i64 c.tg) := KCa.cell 3
      have p4 : wa.cell? ⟨X, 4, none⟩ = some (.int .i64 c.va) := KCa.cell 4
      have p5 : wa.cell? ⟨X, 5, none⟩ = some (.int .i64 c.sz) := KCa.cell 5
      have p6 : wa.cell? ⟨X, 6, none⟩ = some (.int .i64 c.ro) := KCa.cell 6
      have p7 : wa.cell? ⟨X, 7, none⟩ = some (.int .u8 c.op) := KCa.cell 7
      have p8 : wa.cell? ⟨X, 8, none⟩ = some (.slice ra c.rq.length rc) := KCa.cell 8
      have p9 : wa.cell? ⟨X, 9, none⟩ = some (.int .i64 c.cl) := KCa.cell 9
      have p10 : wa.cell? ⟨X, 10, none⟩ = some (.int .i64 c.ky) := KCa.cell 10
      have z0 : wa.cell? ⟨Z, 0, none⟩ = some (.string ⟨#[]⟩) := KZa.cell 0
      have z1 : wa.cell? ⟨Z, 1, none⟩ = some (.slice (some ⟨g, 0, none⟩) 64 64) := KZa.cell 1
      clear KCa KZa KGa hba q0 q1 q2 q3 q4 q5 q6 q7 q8 q9 q10 y0 y1 P0
      go_wp2_with fail
      refine (P1.out wa HBa.out).mono ?_
      rintro e wb ⟨rfl, hbb⟩
      have HBb := hide (HBa.out.trans (hbb.mono HBa.out.size))
      have KGb := KG.out.below HBb.out KG.out.lt
      have y0 : wb.cell? ⟨Y, 0, none⟩ = some (.string key) := KGb.cell 0
      have y1 : wb.cell? ⟨Y, 1, none⟩ = some (.slice A l.length gc) := KGb.cell 1
      clear KGb hbb P1 z0 z1 p0 p1 p2 p3 p4 p5 p6 p7 p8 p9 p10
      go_wp2_with fail
      refine (P2.out wb HBb.out).mono ?_
      rintro e wd ⟨rfl, hbd⟩
      have HBd := hide (HBb.out.trans (hbd.mono HBb.out.size))
      clear hbd P2
      go_wp2_with fail
      go_meet
      exact ⟨rfl, HBd.out⟩
    · rw [decide_eq_false hm] at P0
      clear hm
      go_wp2_with fail
      refine P0.out.mono ?_
      rintro e wa ⟨rfl, hba⟩
      have HBa := hide hba
      clear hba q0 q1 q2 q3 q4 q5 q6 q7 q8 q9 q10 y0 y1 P0
      go_wp2_with fail
      go_meet
      exact ⟨rfl, HBa.out⟩
  obtain ⟨rfl, hb6⟩ := hcut
  have HB6 := hide hb6
  obtain ⟨w6, hw6⟩ : ∃ z, z = wc := ⟨_, rfl⟩
  subst hw6
  have KC6 := hide (KC.out.below hb6 KC.out.lt)
  clear hb6 GM MG HRG KG
  have q0 : w6.cell? ⟨X, 0, none⟩ = some (.int .u8 c.k) := KC6.out.cell 0
  have q1 : w6.cell? ⟨X, 1, none⟩ = some (.int .i64 c.co) := KC6.out.cell 1
  have q2 : w6.cell? ⟨X, 2, none⟩ = some (.int .i64 c.pe) := KC6.out.cell 2
  have q3 : w6.cell? ⟨X, 3, none⟩ = some (.int .i64 c.tg) := KC6.out.cell 3
  have q4 : w6.cell? ⟨X, 4, none⟩ = some (.int .i64 c.va) := KC6.out.cell 4
  have q5 : w6.cell? ⟨X, 5, none⟩ = some (.int .i64 c.sz) := KC6.out.cell 5
  have q6 : w6.cell? ⟨X, 6, none⟩ = some (.int .i64 c.ro) := KC6.out.cell 6
  have q7 : w6.cell? ⟨X, 7, none⟩ = some (.int .u8 c.op) := KC6.out.cell 7
  have q8 : w6.cell? ⟨X, 8, none⟩ = some (.slice ra c.rq.length rc) := KC6.out.cell 8
  have q9 : w6.cell? ⟨X, 9, none⟩ = some (.int .i64 c.cl) := KC6.out.cell 9
  have q10 : w6.cell? ⟨X, 10, none⟩ = some (.int .i64 c.ky) := KC6.out.cell 10
  have P0 := hide (M0.out w6 HB6.out)
  rw [decide_eq_false (may_none c)] at P0
  go_upto_region 8 with (fail)
  go_wp2_with fail
  refine P0.out.mono ?_
  rintro e w7 ⟨rfl, hb7⟩
  have HB7 := hide (HB6.out.trans (hb7.mono HB6.out.size))
  have KC7 := hide (KC.out.below HB7.out KC.out.lt)
  clear hb7 KC6 HB6 P0 M0 q0 q1 q2 q3 q4 q5 q6 q7 q8 q9 q10
  have q0 : w7.cell? ⟨X, 0, none⟩ = some (.int .u8 c.k) := KC7.out.cell 0
  go_upto_region 10 with (fail)
  obtain ⟨op, hop⟩ : ∃ b, decide (openK c.k) = b := ⟨_, rfl⟩
  have HOP := hide hop
  clear hop
  go_cut [7] from 47 to 64 (fun x wx => x = .bool op ∧ w7 = wx)
  case first =>
    by_cases k6 : c.k = 6
    · have e6 : (c.k == 6) = true := by simpa using k6
      have ho : op = true := by rw [← HOP.out]; exact decide_eq_true (by unfold openK; omega)
      clear k6
      go_wp2_with fail
      go_meet
      exact ⟨by rw [ho], rfl⟩
    have e6 : (c.k == 6) = false := by simpa using k6
    by_cases k7 : c.k = 7
    · have e7 : (c.k == 7) = true := by simpa using k7
      have ho : op = true := by rw [← HOP.out]; exact decide_eq_true (by unfold openK; omega)
      clear k7
      go_wp2_with fail
      go_meet
      exact ⟨by rw [ho], rfl⟩
    have e7 : (c.k == 7) = false := by simpa using k7
    by_cases k13 : c.k = 13
    · have e13 : (c.k == 13) = true := by simpa using k13
      have ho : op = true := by rw [← HOP.out]; exact decide_eq_true (by unfold openK; omega)
      clear k13
      go_wp2_with fail
      go_meet
      exact ⟨by rw [ho], rfl⟩
    have e13 : (c.k == 13) = false := by simpa using k13
    by_cases k14 : c.k = 14
    · have e14 : (c.k == 14) = true := by simpa using k14
      have ho : op = true := by rw [← HOP.out]; exact decide_eq_true (by unfold openK; omega)
      clear k14
      go_wp2_with fail
      go_meet
      exact ⟨by rw [ho], rfl⟩
    have e14 : (c.k == 14) = false := by simpa using k14
    have ho : op = false := by rw [← HOP.out]; exact decide_eq_false (by unfold openK; omega)
    clear k6 k7 k13 k14
    go_wp2_with fail
    go_meet
    exact ⟨by rw [ho], rfl⟩
  obtain ⟨rfl, hw7⟩ := hcut
  subst hw7
  clear q0
  obtain ⟨d, hd⟩ : ∃ z, trimC c = z := ⟨_, rfl⟩
  have TR7 := hide (TR.out w7 HB7.out)
  rw [hd] at TR7
  have HD := hide hd
  unfold Cl.A clA at TR7
  have q0 : w7.cell? ⟨X, 0, none⟩ = some (.int .u8 c.k) := KC7.out.cell 0
  have q1 : w7.cell? ⟨X, 1, none⟩ = some (.int .i64 c.co) := KC7.out.cell 1
  have q2 : w7.cell? ⟨X, 2, none⟩ = some (.int .i64 c.pe) := KC7.out.cell 2
  have q3 : w7.cell? ⟨X, 3, none⟩ = some (.int .i64 c.tg) := KC7.out.cell 3
  have q4 : w7.cell? ⟨X, 4, none⟩ = some (.int .i64 c.va) := KC7.out.cell 4
  have q5 : w7.cell? ⟨X, 5, none⟩ = some (.int .i64 c.sz) := KC7.out.cell 5
  have q6 : w7.cell? ⟨X, 6, none⟩ = some (.int .i64 c.ro) := KC7.out.cell 6
  have q7 : w7.cell? ⟨X, 7, none⟩ = some (.int .u8 c.op) := KC7.out.cell 7
  have q8 : w7.cell? ⟨X, 8, none⟩ = some (.slice ra c.rq.length rc) := KC7.out.cell 8
  have q9 : w7.cell? ⟨X, 9, none⟩ = some (.int .i64 c.cl) := KC7.out.cell 9
  have q10 : w7.cell? ⟨X, 10, none⟩ = some (.int .i64 c.ky) := KC7.out.cell 10
  clear hd
  go_wp2_with fail
  refine TR7.out.mono ?_
  rintro e w8 ⟨rd, cd, rfl, hown, hb8⟩
  have HB8 := hide (HB7.out.trans (hb8.mono HB7.out.size))
  have NT8 := hide (own_row hown rfl)
  have HCD := hide (own_cap hown)
  clear hown hb8 TR7 TR HB7 KC7 q0 q1 q2 q3 q4 q5 q6 q7 q8 q9 q10
  have ba := (Below.refl w8.heap.size w8).alloc (Nat.le_refl _) (.cells #[.int .u8 d.k, .int .i64 d.co, .int .i64 d.pe, .int .i64 d.tg, .int .i64 d.va, .int .i64 d.sz, .int .i64 d.ro, .int .u8 d.op, .slice rd d.rq.length cd, .int .i64 d.cl, .int .i64 d.ky] 24)
  have kp := Blk.new w8 24 #[.int .u8 d.k, .int .i64 d.co, .int .i64 d.pe, .int .i64 d.tg, .int .i64 d.va, .int .i64 d.sz, .int .i64 d.ro, .int .u8 d.op, .slice rd d.rq.length cd, .int .i64 d.cl, .int .i64 d.ky]
  obtain ⟨w9, hww9⟩ : ∃ y, w8.alloc (.cells #[.int .u8 d.k, .int .i64 d.co, .int .i64 d.pe, .int .i64 d.tg, .int .i64 d.va, .int .i64 d.sz, .int .i64 d.ro, .int .u8 d.op, .slice rd d.rq.length cd, .int .i64 d.cl, .int .i64 d.ky] 24) = y := ⟨_, rfl⟩
  obtain ⟨D, hnD⟩ : ∃ T, w8.heap.size = T := ⟨_, rfl⟩
  rw [hww9] at ba kp
  rw [hnD] at kp
  have HWw9 := hide hww9
  have HND := hide hnD
  have KD := hide kp
  have HAD := hide ba
  clear ba kp hww9 hnD
  have HB9 := hide (HB8.out.trans (HAD.out.mono HB8.out.size))
  have HM5 := hide (show w5.heap.size ≤ D by rw [← HND.out]; exact HB8.out.size)
  go_upto_region 12 with (fail)
  rw [HWw9.out, HND.out]
  clear HB8 HWw9
  have d0 : w9.cell? ⟨D, 0, none⟩ = some (.int .u8 d.k) := KD.out.cell 0
  obtain ⟨us, hus⟩ : ∃ b, (!decide (d.k = 0) && (op || decide (d.k ≤ 5))) = b := ⟨_, rfl⟩
  have HUS := hide hus
  clear hus
  generalize hdk : d.k = dk at d0 HUS ⊢
  go_cut [9] from 67 to 77 (fun x wx => x = .bool us ∧ w9 = wx)
  case first =>
    clear hdk
    by_cases z0 : dk = 0
    · subst z0
      have hs : us = false := by rw [← HUS.out]; rfl
      go_wp2_with fail
      go_meet
      exact ⟨by rw [hs], rfl⟩
    cases op with
    | true =>
      have hs : us = true := by rw [← HUS.out, decide_eq_false z0]; rfl
      go_wp2_with fail
      go_meet
      exact ⟨by first | (rw [hs]; done) | simp [hs, z0] | simp_all, rfl⟩
    | false =>
      by_cases z5 : dk ≤ 5
      · have hs : us = true := by rw [← HUS.out, decide_eq_false z0, decide_eq_true z5]; rfl
        go_wp2_with fail
        go_meet
        exact ⟨by first | (rw [hs]; done) | simp [hs, z0] | simp [hs, z0, z5] | simp_all, rfl⟩
      · have hs : us = false := by rw [← HUS.out, decide_eq_false z0, decide_eq_false z5]; rfl
        go_wp2_with fail
        go_meet
        exact ⟨by first | (rw [hs]; done) | simp [hs, z0] | simp [hs, z0, z5] | simp_all, rfl⟩
  obtain ⟨rfl, hw9⟩ := hcut
  subst hw9
  subst hdk
  clear d0
  have z2 : w9.cell? ⟨D, 2, none⟩ = some (.int .i64 d.pe) := KD.out.cell 2
  have z3 : w9.cell? ⟨D, 3, none⟩ = some (.int .i64 d.tg) := KD.out.cell 3
  have f2 := KD.out.frozen 2
  have f3 := KD.out.frozen 3
  have kd1 := KD.out.set_ 2 (.int .i64 (-1))
  have kd2 := kd1.set_ 3 (.int .i64 (-1))
  have z3b : (w9.setCell ⟨D, 2, none⟩ (.int .i64 (-1))).cell? ⟨D, 3, none⟩ = some (.int .i64 d.tg) := kd1.cell 3
  have f3b := kd1.frozen 3
  have hb10 := (HB9.out.setCell (p := ⟨D, 2, none⟩) HM5.out (.int .i64 (-1))).setCell (p := ⟨D, 3, none⟩) HM5.out (.int .i64 (-1))
  have hD : w8.heap.size ≤ D := by rw [← HND.out]; exact Nat.le_refl _
  have ha10 := (HAD.out.setCell (p := ⟨D, 2, none⟩) hD (.int .i64 (-1))).setCell (p := ⟨D, 3, none⟩) hD (.int .i64 (-1))
  go_upto_region 14 with (fail)
  obtain ⟨w10, hw10⟩ : ∃ z, (w9.setCell ⟨D, 2, none⟩ (.int .i64 (-1))).setCell ⟨D, 3, none⟩ (.int .i64 (-1)) = z := ⟨_, rfl⟩
  rw [hw10] at kd2 hb10 ha10 ⊢
  obtain ⟨a, ha⟩ : ∃ z, ({ d with pe := -1, tg := -1 } : Cl) = z := ⟨_, rfl⟩
  have HAN : Hid (anyC c = a) := hide (by rw [← ha, ← HD.out]; rfl)
  have KA : Hid (Blk w10 D 24 #[.int .u8 a.k, .int .i64 a.co, .int .i64 a.pe, .int .i64 a.tg, .int .i64 a.va, .int .i64 a.sz, .int .i64 a.ro, .int .u8 a.op, .slice rd a.rq.length cd, .int .i64 a.cl, .int .i64 a.ky]) := hide (by rw [← ha]; exact kd2)
  have hra : a.rq = d.rq := by rw [← ha]
  have NA := hide (show NRow w10 rd a.rq by rw [hra]; exact NT8.out.below ha10)
  have HCA : Hid (a.rq.length ≤ cd) := hide (by rw [hra]; exact HCD.out)
  have HLA : Hid (a.rq.length ≤ 60) := hide (by
    rw [hra, ← HD.out]
    show (if hasF c.k 7 then c.rq else []).length ≤ 60
    split
    · exact HG1.out
    · exact Nat.zero_le _)
  have HB10 := hide hb10
  have KC10 := hide (KC.out.below hb10 KC.out.lt)
  have KZ10 := hide (KZ.out.below hb10 KZ.out.lt)
  clear z2 z3 f2 f3 kd1 kd2 z3b f3b hb10 hD ha10 hw10 ha hra HB9 HM5 KD HND HAD NT8 HCD
  have MAA := hide (fun (w' : World) (hb : Below w10.heap.size w10 w') => May_p a rd cd ⟨#[]⟩ (some ⟨g, 0, none⟩) 64 (Sp.upto 64) w' (NA.out.below hb) HCA.out (by have := HLA.out; omega) (NW.out w' (HB10.out.trans (hb.mono HB10.out.size))) (by decide))
  go_cut [89] from 80 to 88 (fun x wx => x = .bool false ∧ Below w10.heap.size w10 wx)
  case first =>
    cases us with
    | false =>
      go_wp2_with fail
      go_meet
      exact ⟨rfl, Below.refl _ _⟩
    | true =>
      cases op with
      | true =>
        go_wp2_with fail
        go_meet
        exact ⟨rfl, Below.refl _ _⟩
      | false =>
        have hu := HUS.out
        have h0 : ¬ d.k = 0 := fun e => by rw [decide_eq_true e] at hu; cases hu
        have h5 : d.k ≤ 5 := by
          by_cases h : d.k ≤ 5
          · exact h
          · rw [decide_eq_false h0, decide_eq_false h] at hu; cases hu
        have P0 := hide (MAA.out w10 (Below.refl _ _))
        rw [decide_eq_false (by rw [← HAN.out]; exact any_shut (by rw [HD.out]; exact h0) (by rw [HD.out]; exact h5) OK.out.k.1 _)] at P0
        have p0 : w10.cell? ⟨D, 0, none⟩ = some (.int .u8 a.k) := KA.out.cell 0
        have p1 : w10.cell? ⟨D, 1, none⟩ = some (.int .i64 a.co) := KA.out.cell 1
        have p2 : w10.cell? ⟨D, 2, none⟩ = some (.int .i64 a.pe) := KA.out.cell 2
        have p3 : w10.cell? ⟨D, 3, none⟩ = some (.int .i64 a.tg) := KA.out.cell 3
        have p4 : w10.cell? ⟨D, 4, none⟩ = some (.int .i64 a.va) := KA.out.cell 4
        have p5 : w10.cell? ⟨D, 5, none⟩ = some (.int .i64 a.sz) := KA.out.cell 5
        have p6 : w10.cell? ⟨D, 6, none⟩ = some (.int .i64 a.ro) := KA.out.cell 6
        have p7 : w10.cell? ⟨D, 7, none⟩ = some (.int .u8 a.op) := KA.out.cell 7
        have p8 : w10.cell? ⟨D, 8, none⟩ = some (.slice rd a.rq.length cd) := KA.out.cell 8
        have p9 : w10.cell? ⟨D, 9, none⟩ = some (.int .i64 a.cl) := KA.out.cell 9
        have p10 : w10.cell? ⟨D, 10, none⟩ = some (.int .i64 a.ky) := KA.out.cell 10
        have z0 : w10.cell? ⟨Z, 0, none⟩ = some (.string ⟨#[]⟩) := KZ10.out.cell 0
        have z1 : w10.cell? ⟨Z, 1, none⟩ = some (.slice (some ⟨g, 0, none⟩) 64 64) := KZ10.out.cell 1
        clear hu h0 h5
        go_wp2_with fail
        refine P0.out.mono ?_
        rintro e wa ⟨rfl, hba⟩
        have HBa := hide hba
        clear hba
        go_wp2_with fail
        go_meet
        exact ⟨rfl, HBa.out⟩
  obtain ⟨rfl, hb11⟩ := hcut
  obtain ⟨w11, hw11⟩ : ∃ z, z = wc := ⟨_, rfl⟩
  subst hw11
  have HB11 := hide (HB10.out.trans (hb11.mono HB10.out.size))
  have HF := hide (HB5.out.1.trans (HB11.out.mono HB5.out.2))
  have KA11 := hide (KA.out.below hb11 KA.out.lt)
  have KC11 := hide (KC10.out.below hb11 KC10.out.lt)
  have KZ11 := hide (KZ10.out.below hb11 KZ10.out.lt)
  have MA11 := hide (fun (w' : World) (hb : Below w11.heap.size w11 w') => MAA.out w' (hb11.trans (hb.mono hb11.size)))
  clear hb11 HB10 KA KC10 KZ10 MAA KC KZ NA MA HB11
  go_upto_region 16 with (fail)
  cases op with
  | false =>
    go_region
    all_goals (go_wp2_with fail)
    all_goals go_ret
    all_goals exact ⟨rfl, HF.out.drew⟩
  | true =>
    have ho : openK c.k := of_decide_eq_true HOP.out
    have MV : Hid (decide (mayC a (Sp.upto 64)) = (decide (0 ≤ c.co) && decide (c.co < 32))) := hide (by
      rw [← HAN.out, ← Bool.decide_and]
      exact decide_eq_decide.2 (any_open ho may_upto))
    have DV : Hid (decC a = true) := hide (by rw [← HAN.out]; exact any_dec ho)
    clear ho
    by_cases hc0 : 0 ≤ c.co
    · have HC0 := hide hc0
      rw [decide_eq_true hc0, Bool.true_and] at MV
      obtain ⟨b3, hb3⟩ : ∃ z, decide (c.co < 32) = z := ⟨_, rfl⟩
      rw [hb3] at MV
      have HB3 := hide hb3
      clear hc0 hb3
      let R : Nat → Value → World → Prop := fun sl u w1 => match sl with
        | 4 => u = .bool true
        | 90 => u = .bool true
        | 91 => u = .bool false
        | 92 => u = .bool false
        | 93 => u = .agg #[.int .u8 a.k, .int .i64 a.co, .int .i64 a.pe, .int .i64 a.tg, .int .i64 a.va, .int .i64 a.sz, .int .i64 a.ro, .int .u8 a.op, .slice rd a.rq.length cd, .int .i64 a.cl, .int .i64 a.ky]
        | 94 => u = .agg #[.string ⟨#[]⟩, .slice (some ⟨g, 0, none⟩) 64 64]
        | 95 => u = .bool b3
        | 96 => u = .pointer (some ⟨X, 1, none⟩)
        | 97 => u = .int .i64 c.co
        | 98 => u = .bool true
        | 99 => u = .bool true
        | 100 => u = .pointer (some ⟨X, 1, none⟩)
        | 101 => u = .int .i64 c.co
        | 102 => u = .bool b3
        | 103 => u = .bool b3
        | 104 => u = .bool true
        | 105 => u = .bool true
        | 106 => u = .agg #[.int .u8 a.k, .int .i64 a.co, .int .i64 a.pe, .int .i64 a.tg, .int .i64 a.va, .int .i64 a.sz, .int .i64 a.ro, .int .u8 a.op, .slice rd a.rq.length cd, .int .i64 a.cl, .int .i64 a.ky]
        | 107 => u = .bool true
        | 108 => u = .bool true
        | 109 => u = .bool true
        | _ => True
      refine wp_region_relGW [(92, false), (99, true), (105, true)] R (fun a b => Below a.heap.size a b) (fun _ w => Below w11.heap.size w11 w) (by kernel_rfl) (by kernel_rfl) (by kernel_rfl) (by kernel_rfl) ?mono (fun w => Below.refl _ _) ((Below.refl _ _).drew) ?gs ?step ?fin
      case mono =>
        intro sl u wx wy h hk
        match sl with
        | 0 | 1 | 2 | 3 | 4 | 5 | 6 | 7 | 8 | 9 | 10 | 11 | 12 | 13 | 14 | 15 | 16 | 17 | 18 | 19 | 20 | 21 | 22 | 23 | 24 | 25 | 26 | 27 | 28 | 29 | 30 | 31 | 32 | 33 | 34 | 35 | 36 | 37 | 38 | 39 | 40 | 41 | 42 | 43 | 44 | 45 | 46 | 47 | 48 | 49 | 50 | 51 | 52 | 53 | 54 | 55 | 56 | 57 | 58 | 59 | 60 | 61 | 62 | 63 | 64 | 65 | 66 | 67 | 68 | 69 | 70 | 71 | 72 | 73 | 74 | 75 | 76 | 77 | 78 | 79 | 80 | 81 | 82 | 83 | 84 | 85 | 86 | 87 | 88 | 89 | 90 | 91 | 92 | 93 | 94 | 95 | 96 | 97 | 98 | 99 | 100 | 101 | 102 | 103 | 104 | 105 | 106 | 107 | 108 | 109 | _ + 110 => exact h
      case gs =>
        intro p hp u w1 h
        simp only [List.mem_cons, List.not_mem_nil, or_false] at hp
        rcases hp with rfl | rfl | rfl <;> exact h
      case step =>
        intro j o ho
        match j, ho with
        | 0, ho =>
          cases ho
          intro V aa wx hV hdep hval hj hsm hr
          have e7 : aa.tmps.getD 7 undef = .bool true := hsm 7 (by decide)
          rw [Array.getD_eq_getD_getElem?] at e7
          unfold Oper.wp
          simp only [execOp, Act.eval, Array.getD_eq_getD_getElem?, e7]
          go_simp
          first | exact ⟨_, rfl, rfl, Below.refl _ _⟩ | exact ⟨_, rfl, rfl, Below.refl _ _, hj⟩ | exact ⟨_, rfl, Below.refl _ _, hj⟩ | exact ⟨_, rfl, hj⟩
        | 1, ho =>
          cases ho
          intro V aa wx hV hdep hval hj hsm hr
          have e90 : aa.tmps.getD 90 undef = .bool true := hr 90 (by decide) (by apply Array.mem_toList_iff.1; repeat (first | exact List.Mem.head _ | apply List.Mem.tail))
          rw [Array.getD_eq_getD_getElem?] at e90
          unfold Oper.wp
          simp only [execOp, Act.eval, Array.getD_eq_getD_getElem?, e90]
          go_simp
          first | exact ⟨_, rfl, rfl, Below.refl _ _⟩ | exact ⟨_, rfl, rfl, Below.refl _ _, hj⟩ | exact ⟨_, rfl, Below.refl _ _, hj⟩ | exact ⟨_, rfl, hj⟩
        | 2, ho =>
          cases ho
          intro V aa wx hV hdep hval hj hsm hr
          have e91 : aa.tmps.getD 91 undef = .bool false := hr 91 (by decide) (by apply Array.mem_toList_iff.1; repeat (first | exact List.Mem.head _ | apply List.Mem.tail))
          rw [Array.getD_eq_getD_getElem?] at e91
          unfold Oper.wp
          simp only [execOp, Act.eval, Array.getD_eq_getD_getElem?, e91]
          go_simp
          first | exact ⟨_, rfl, rfl, Below.refl _ _⟩ | exact ⟨_, rfl, rfl, Below.refl _ _, hj⟩ | exact ⟨_, rfl, Below.refl _ _, hj⟩ | exact ⟨_, rfl, hj⟩
        | 3, ho =>
          cases ho
          intro V aa wx hV hdep hval hj hsm hr
          have e8 : aa.tmps.getD 8 undef = .pointer (some ⟨D, 0, none⟩) := hsm 8 (by decide)
          have hkb := KA11.out.below hj KA11.out.lt
          have cc0 : wx.cell? ⟨D, 0, none⟩ = some (.int .u8 a.k) := hkb.cell 0
          have cc1 : wx.cell? ⟨D, 1, none⟩ = some (.int .i64 a.co) := hkb.cell 1
          have cc2 : wx.cell? ⟨D, 2, none⟩ = some (.int .i64 a.pe) := hkb.cell 2
          have cc3 : wx.cell? ⟨D, 3, none⟩ = some (.int .i64 a.tg) := hkb.cell 3
          have cc4 : wx.cell? ⟨D, 4, none⟩ = some (.int .i64 a.va) := hkb.cell 4
          have cc5 : wx.cell? ⟨D, 5, none⟩ = some (.int .i64 a.sz) := hkb.cell 5
          have cc6 : wx.cell? ⟨D, 6, none⟩ = some (.int .i64 a.ro) := hkb.cell 6
          have cc7 : wx.cell? ⟨D, 7, none⟩ = some (.int .u8 a.op) := hkb.cell 7
          have cc8 : wx.cell? ⟨D, 8, none⟩ = some (.slice rd a.rq.length cd) := hkb.cell 8
          have cc9 : wx.cell? ⟨D, 9, none⟩ = some (.int .i64 a.cl) := hkb.cell 9
          have cc10 : wx.cell? ⟨D, 10, none⟩ = some (.int .i64 a.ky) := hkb.cell 10
          rw [Array.getD_eq_getD_getElem?] at e8
          unfold Oper.wp
          simp only [execOp, Act.eval, Array.getD_eq_getD_getElem?, e8]
          go_simp
          first | exact ⟨_, rfl, rfl, Below.refl _ _⟩ | exact ⟨_, rfl, rfl, Below.refl _ _, hj⟩ | exact ⟨_, rfl, Below.refl _ _, hj⟩ | exact ⟨_, rfl, hj⟩
        | 4, ho =>
          cases ho
          intro V aa wx hV hdep hval hj hsm hr
          have e5 : aa.tmps.getD 5 undef = .pointer (some ⟨Z, 0, none⟩) := hsm 5 (by decide)
          have hkb := KZ11.out.below hj KZ11.out.lt
          have cc0 : wx.cell? ⟨Z, 0, none⟩ = some (.string ⟨#[]⟩) := hkb.cell 0
          have cc1 : wx.cell? ⟨Z, 1, none⟩ = some (.slice (some ⟨g, 0, none⟩) 64 64) := hkb.cell 1
          rw [Array.getD_eq_getD_getElem?] at e5
          unfold Oper.wp
          simp only [execOp, Act.eval, Array.getD_eq_getD_getElem?, e5]
          go_simp
          first | exact ⟨_, rfl, rfl, Below.refl _ _⟩ | exact ⟨_, rfl, rfl, Below.refl _ _, hj⟩ | exact ⟨_, rfl, Below.refl _ _, hj⟩ | exact ⟨_, rfl, hj⟩
        | 5, ho =>
          cases ho
          intro V aa wx hV hdep hval hj hsm hr
          have e93 : aa.tmps.getD 93 undef = .agg #[.int .u8 a.k, .int .i64 a.co, .int .i64 a.pe, .int .i64 a.tg, .int .i64 a.va, .int .i64 a.sz, .int .i64 a.ro, .int .u8 a.op, .slice rd a.rq.length cd, .int .i64 a.cl, .int .i64 a.ky] := hr 93 (by decide) (by apply Array.mem_toList_iff.1; repeat (first | exact List.Mem.head _ | apply List.Mem.tail))
          have e94 : aa.tmps.getD 94 undef = .agg #[.string ⟨#[]⟩, .slice (some ⟨g, 0, none⟩) 64 64] := hr 94 (by decide) (by apply Array.mem_toList_iff.1; repeat (first | exact List.Mem.head _ | apply List.Mem.tail))
          rw [Array.getD_eq_getD_getElem?] at e93
          rw [Array.getD_eq_getD_getElem?] at e94
          unfold Oper.wp
          simp only [execOp, Act.eval, Array.getD_eq_getD_getElem?, e93, e94]
          go_simp
          refine (MA11.out wx hj).mono ?_
          rintro e w' ⟨rfl, hb⟩
          exact ⟨_, rfl, by show Value.bool (decide (mayC a (Sp.upto 64))) = .bool b3; rw [MV.out], hb, hj.trans (hb.mono hj.size)⟩
        | 6, ho =>
          cases ho
          intro V aa wx hV hdep hval hj hsm hr
          have e2 : aa.tmps.getD 2 undef = .pointer (some ⟨X, 0, none⟩) := hsm 2 (by decide)
          rw [Array.getD_eq_getD_getElem?] at e2
          unfold Oper.wp
          simp only [execOp, Act.eval, Array.getD_eq_getD_getElem?, e2]
          go_simp
          first | exact ⟨_, rfl, rfl, Below.refl _ _⟩ | exact ⟨_, rfl, rfl, Below.refl _ _, hj⟩ | exact ⟨_, rfl, Below.refl _ _, hj⟩ | exact ⟨_, rfl, hj⟩
        | 7, ho =>
          cases ho
          intro V aa wx hV hdep hval hj hsm hr
          have e96 : aa.tmps.getD 96 undef = .pointer (some ⟨X, 1, none⟩) := hr 96 (by decide) (by apply Array.mem_toList_iff.1; repeat (first | exact List.Mem.head _ | apply List.Mem.tail))
          have hkb := KC11.out.below hj KC11.out.lt
          have cc1 : wx.cell? ⟨X, 1, none⟩ = some (.int .i64 c.co) := hkb.cell 1
          rw [Array.getD_eq_getD_getElem?] at e96
          unfold Oper.wp
          simp only [execOp, Act.eval, Array.getD_eq_getD_getElem?, e96]
          go_simp
          first | exact ⟨_, rfl, rfl, Below.refl _ _⟩ | exact ⟨_, rfl, rfl, Below.refl _ _, hj⟩ | exact ⟨_, rfl, Below.refl _ _, hj⟩ | exact ⟨_, rfl, hj⟩
        | 8, ho =>
          cases ho
          intro V aa wx hV hdep hval hj hsm hr
          have e97 : aa.tmps.getD 97 undef = .int .i64 c.co := hr 97 (by decide) (by apply Array.mem_toList_iff.1; repeat (first | exact List.Mem.head _ | apply List.Mem.tail))
          rw [Array.getD_eq_getD_getElem?] at e97
          unfold Oper.wp
          simp only [execOp, Act.eval, Array.getD_eq_getD_getElem?, e97]
          go_simp
          first | exact ⟨_, rfl, (by show Value.bool (decide (0 ≤ c.co)) = .bool true; rw [decide_eq_true HC0.out]), Below.refl _ _⟩ | exact ⟨_, rfl, (by show Value.bool (decide (0 ≤ c.co)) = .bool true; rw [decide_eq_true HC0.out]), Below.refl _ _, hj⟩ | (trace_state; fail)
        | 9, ho =>
          cases ho
          intro V aa wx hV hdep hval hj hsm hr
          have e98 : aa.tmps.getD 98 undef = .bool true := hr 98 (by decide) (by apply Array.mem_toList_iff.1; repeat (first | exact List.Mem.head _ | apply List.Mem.tail))
          rw [Array.getD_eq_getD_getElem?] at e98
          unfold Oper.wp
          simp only [execOp, Act.eval, Array.getD_eq_getD_getElem?, e98]
          go_simp
          first | exact ⟨_, rfl, rfl, Below.refl _ _⟩ | exact ⟨_, rfl, rfl, Below.refl _ _, hj⟩ | exact ⟨_, rfl, Below.refl _ _, hj⟩ | exact ⟨_, rfl, hj⟩
        | 10, ho =>
          cases ho
          intro V aa wx hV hdep hval hj hsm hr
          have e2 : aa.tmps.getD 2 undef = .pointer (some ⟨X, 0, none⟩) := hsm 2 (by decide)
          rw [Array.getD_eq_getD_getElem?] at e2
          unfold Oper.wp
          simp only [execOp, Act.eval, Array.getD_eq_getD_getElem?, e2]
          go_simp
          first | exact ⟨_, rfl, rfl, Below.refl _ _⟩ | exact ⟨_, rfl, rfl, Below.refl _ _, hj⟩ | exact ⟨_, rfl, Below.refl _ _, hj⟩ | exact ⟨_, rfl, hj⟩
        | 11, ho =>
          cases ho
          intro V aa wx hV hdep hval hj hsm hr
          have e100 : aa.tmps.getD 100 undef = .pointer (some ⟨X, 1, none⟩) := hr 100 (by decide) (by apply Array.mem_toList_iff.1; repeat (first | exact List.Mem.head _ | apply List.Mem.tail))
          have hkb := KC11.out.below hj KC11.out.lt
          have cc1 : wx.cell? ⟨X, 1, none⟩ = some (.int .i64 c.co) := hkb.cell 1
          rw [Array.getD_eq_getD_getElem?] at e100
          unfold Oper.wp
          simp only [execOp, Act.eval, Array.getD_eq_getD_getElem?, e100]
          go_simp
          first | exact ⟨_, rfl, rfl, Below.refl _ _⟩ | exact ⟨_, rfl, rfl, Below.refl _ _, hj⟩ | exact ⟨_, rfl, Below.refl _ _, hj⟩ | exact ⟨_, rfl, hj⟩
        | 12, ho =>
          cases ho
          intro V aa wx hV hdep hval hj hsm hr
          have e101 : aa.tmps.getD 101 undef = .int .i64 c.co := hr 101 (by decide) (by apply Array.mem_toList_iff.1; repeat (first | exact List.Mem.head _ | apply List.Mem.tail))
          rw [Array.getD_eq_getD_getElem?] at e101
          unfold Oper.wp
          simp only [execOp, Act.eval, Array.getD_eq_getD_getElem?, e101]
          go_simp
          first | exact ⟨_, rfl, (by show Value.bool (decide (c.co < 32)) = .bool b3; rw [HB3.out]), Below.refl _ _⟩ | exact ⟨_, rfl, (by show Value.bool (decide (c.co < 32)) = .bool b3; rw [HB3.out]), Below.refl _ _, hj⟩ | (trace_state; fail)
        | 13, ho =>
          cases ho
          intro V aa wx hV hdep hval hj hsm hr
          have e99 : aa.tmps.getD 99 undef = .bool true := hr 99 (by decide) (by apply Array.mem_toList_iff.1; repeat (first | exact List.Mem.head _ | apply List.Mem.tail))
          have e102 : aa.tmps.getD 102 undef = .bool b3 := hr 102 (by decide) (by apply Array.mem_toList_iff.1; repeat (first | exact List.Mem.head _ | apply List.Mem.tail))
          rw [Array.getD_eq_getD_getElem?] at e99
          rw [Array.getD_eq_getD_getElem?] at e102
          unfold Oper.wp
          simp only [execOp, Act.eval, Array.getD_eq_getD_getElem?, e99, e102]
          go_simp
          first | exact ⟨_, rfl, rfl, Below.refl _ _⟩ | exact ⟨_, rfl, rfl, Below.refl _ _, hj⟩ | exact ⟨_, rfl, Below.refl _ _, hj⟩ | exact ⟨_, rfl, hj⟩
        | 14, ho =>
          cases ho
          intro V aa wx hV hdep hval hj hsm hr
          have e95 : aa.tmps.getD 95 undef = .bool b3 := hr 95 (by decide) (by apply Array.mem_toList_iff.1; repeat (first | exact List.Mem.head _ | apply List.Mem.tail))
          have e103 : aa.tmps.getD 103 undef = .bool b3 := hr 103 (by decide) (by apply Array.mem_toList_iff.1; repeat (first | exact List.Mem.head _ | apply List.Mem.tail))
          rw [Array.getD_eq_getD_getElem?] at e95
          rw [Array.getD_eq_getD_getElem?] at e103
          unfold Oper.wp
          simp only [execOp, Act.eval, Array.getD_eq_getD_getElem?, e95, e103]
          go_simp
          first | first | exact ⟨_, rfl, rfl, Below.refl _ _⟩ | exact ⟨_, rfl, rfl, Below.refl _ _, hj⟩ | exact ⟨_, rfl, Below.refl _ _, hj⟩ | exact ⟨_, rfl, hj⟩ | (cases b3 <;> first | exact ⟨_, rfl, rfl, Below.refl _ _⟩ | exact ⟨_, rfl, rfl, Below.refl _ _, hj⟩ | exact ⟨_, rfl, Below.refl _ _, hj⟩ | exact ⟨_, rfl, hj⟩)
        | 15, ho =>
          cases ho
          intro V aa wx hV hdep hval hj hsm hr
          have e104 : aa.tmps.getD 104 undef = .bool true := hr 104 (by decide) (by apply Array.mem_toList_iff.1; repeat (first | exact List.Mem.head _ | apply List.Mem.tail))
          rw [Array.getD_eq_getD_getElem?] at e104
          unfold Oper.wp
          simp only [execOp, Act.eval, Array.getD_eq_getD_getElem?, e104]
          go_simp
          first | exact ⟨_, rfl, rfl, Below.refl _ _⟩ | exact ⟨_, rfl, rfl, Below.refl _ _, hj⟩ | exact ⟨_, rfl, Below.refl _ _, hj⟩ | exact ⟨_, rfl, hj⟩
        | 16, ho =>
          cases ho
          intro V aa wx hV hdep hval hj hsm hr
          have e8 : aa.tmps.getD 8 undef = .pointer (some ⟨D, 0, none⟩) := hsm 8 (by decide)
          have hkb := KA11.out.below hj KA11.out.lt
          have cc0 : wx.cell? ⟨D, 0, none⟩ = some (.int .u8 a.k) := hkb.cell 0
          have cc1 : wx.cell? ⟨D, 1, none⟩ = some (.int .i64 a.co) := hkb.cell 1
          have cc2 : wx.cell? ⟨D, 2, none⟩ = some (.int .i64 a.pe) := hkb.cell 2
          have cc3 : wx.cell? ⟨D, 3, none⟩ = some (.int .i64 a.tg) := hkb.cell 3
          have cc4 : wx.cell? ⟨D, 4, none⟩ = some (.int .i64 a.va) := hkb.cell 4
          have cc5 : wx.cell? ⟨D, 5, none⟩ = some (.int .i64 a.sz) := hkb.cell 5
          have cc6 : wx.cell? ⟨D, 6, none⟩ = some (.int .i64 a.ro) := hkb.cell 6
          have cc7 : wx.cell? ⟨D, 7, none⟩ = some (.int .u8 a.op) := hkb.cell 7
          have cc8 : wx.cell? ⟨D, 8, none⟩ = some (.slice rd a.rq.length cd) := hkb.cell 8
          have cc9 : wx.cell? ⟨D, 9, none⟩ = some (.int .i64 a.cl) := hkb.cell 9
          have cc10 : wx.cell? ⟨D, 10, none⟩ = some (.int .i64 a.ky) := hkb.cell 10
          rw [Array.getD_eq_getD_getElem?] at e8
          unfold Oper.wp
          simp only [execOp, Act.eval, Array.getD_eq_getD_getElem?, e8]
          go_simp
          first | exact ⟨_, rfl, rfl, Below.refl _ _⟩ | exact ⟨_, rfl, rfl, Below.refl _ _, hj⟩ | exact ⟨_, rfl, Below.refl _ _, hj⟩ | exact ⟨_, rfl, hj⟩
        | 17, ho =>
          cases ho
          intro V aa wx hV hdep hval hj hsm hr
          have e106 : aa.tmps.getD 106 undef = .agg #[.int .u8 a.k, .int .i64 a.co, .int .i64 a.pe, .int .i64 a.tg, .int .i64 a.va, .int .i64 a.sz, .int .i64 a.ro, .int .u8 a.op, .slice rd a.rq.length cd, .int .i64 a.cl, .int .i64 a.ky] := hr 106 (by decide) (by apply Array.mem_toList_iff.1; repeat (first | exact List.Mem.head _ | apply List.Mem.tail))
          rw [Array.getD_eq_getD_getElem?] at e106
          unfold Oper.wp
          simp only [execOp, Act.eval, Array.getD_eq_getD_getElem?, e106]
          go_simp
          refine (Decides_a a rd cd wx).mono ?_
          rintro e w' ⟨rfl, hb⟩
          exact ⟨_, rfl, by show Value.bool (decC a) = .bool true; rw [DV.out], hb, hj.trans (hb.mono hj.size)⟩
        | 18, ho =>
          cases ho
          intro V aa wx hV hdep hval hj hsm hr
          have e105 : aa.tmps.getD 105 undef = .bool true := hr 105 (by decide) (by apply Array.mem_toList_iff.1; repeat (first | exact List.Mem.head _ | apply List.Mem.tail))
          have e107 : aa.tmps.getD 107 undef = .bool true := hr 107 (by decide) (by apply Array.mem_toList_iff.1; repeat (first | exact List.Mem.head _ | apply List.Mem.tail))
          rw [Array.getD_eq_getD_getElem?] at e105
          rw [Array.getD_eq_getD_getElem?] at e107
          unfold Oper.wp
          simp only [execOp, Act.eval, Array.getD_eq_getD_getElem?, e105, e107]
          go_simp
          first | exact ⟨_, rfl, rfl, Below.refl _ _⟩ | exact ⟨_, rfl, rfl, Below.refl _ _, hj⟩ | exact ⟨_, rfl, Below.refl _ _, hj⟩ | exact ⟨_, rfl, hj⟩
        | 19, ho =>
          cases ho
          intro V aa wx hV hdep hval hj hsm hr
          have e92 : aa.tmps.getD 92 undef = .bool false := hr 92 (by decide) (by apply Array.mem_toList_iff.1; repeat (first | exact List.Mem.head _ | apply List.Mem.tail))
          have e108 : aa.tmps.getD 108 undef = .bool true := hr 108 (by decide) (by apply Array.mem_toList_iff.1; repeat (first | exact List.Mem.head _ | apply List.Mem.tail))
          rw [Array.getD_eq_getD_getElem?] at e92
          rw [Array.getD_eq_getD_getElem?] at e108
          unfold Oper.wp
          simp only [execOp, Act.eval, Array.getD_eq_getD_getElem?, e92, e108]
          go_simp
          first | exact ⟨_, rfl, rfl, Below.refl _ _⟩ | exact ⟨_, rfl, rfl, Below.refl _ _, hj⟩ | exact ⟨_, rfl, Below.refl _ _, hj⟩ | exact ⟨_, rfl, hj⟩
        | 20, ho =>
          cases ho
          intro V aa wx hV hdep hval hj hsm hr
          have e109 : aa.tmps.getD 109 undef = .bool true := hr 109 (by decide) (by apply Array.mem_toList_iff.1; repeat (first | exact List.Mem.head _ | apply List.Mem.tail))
          rw [Array.getD_eq_getD_getElem?] at e109
          unfold Oper.wp
          simp only [execOp, Act.eval, Array.getD_eq_getD_getElem?, e109]
          go_simp
          first | exact ⟨_, rfl, rfl, Below.refl _ _⟩ | exact ⟨_, rfl, rfl, Below.refl _ _, hj⟩ | exact ⟨_, rfl, Below.refl _ _, hj⟩ | exact ⟨_, rfl, hj⟩
        | _ + 21, ho => cases ho
      case fin =>
        intro ff V wz hV hj hr
        have e4 : ff 4 = .bool true := hr 4 (by decide)
        have HZF := hide (HF.out.trans (hj.mono HF.out.size))
        clear hV hr hj
        simp only [putAll, slotsOf, List.filterMap_cons, List.filterMap_nil, List.foldl_cons, List.foldl_nil, Act.put, e4]
        simp only [List.setIfInBounds_toArray, List.set_cons_succ, List.set_cons_zero]
        go_wp2_with fail
        go_ret
        exact ⟨rfl, HZF.out⟩
    · have HC0 := hide hc0
      rw [decide_eq_false hc0, Bool.false_and] at MV
      clear hc0
      let R : Nat → Value → World → Prop := fun sl u w1 => match sl with
        | 4 => u = .bool true
        | 90 => u = .bool true
        | 91 => u = .bool false
        | 92 => u = .bool false
        | 93 => u = .agg #[.int .u8 a.k, .int .i64 a.co, .int .i64 a.pe, .int .i64 a.tg, .int .i64 a.va, .int .i64 a.sz, .int .i64 a.ro, .int .u8 a.op, .slice rd a.rq.length cd, .int .i64 a.cl, .int .i64 a.ky]
        | 94 => u = .agg #[.string ⟨#[]⟩, .slice (some ⟨g, 0, none⟩) 64 64]
        | 95 => u = .bool false
        | 96 => u = .pointer (some ⟨X, 1, none⟩)
        | 97 => u = .int .i64 c.co
        | 98 => u = .bool false
        | 99 => u = .bool false
        | 103 => u = .bool false
        | 104 => u = .bool true
        | 105 => u = .bool true
        | 106 => u = .agg #[.int .u8 a.k, .int .i64 a.co, .int .i64 a.pe, .int .i64 a.tg, .int .i64 a.va, .int .i64 a.sz, .int .i64 a.ro, .int .u8 a.op, .slice rd a.rq.length cd, .int .i64 a.cl, .int .i64 a.ky]
        | 107 => u = .bool true
        | 108 => u = .bool true
        | 109 => u = .bool true
        | _ => True
      let G0 : Nat → Bool := fun i => match i with | 10 => false | 11 => false | 12 => false | _ => true
      refine wp_region_relG G0 R (fun a b => Below a.heap.size a b) (fun _ w => Below w11.heap.size w11 w) (by kernel_rfl) (by kernel_rfl) (by kernel_rfl) ?mono (fun w => Below.refl _ _) ((Below.refl _ _).drew) (by kernel_rfl) ?gg ?step ?skip ?fin
      case mono =>
        intro sl u wx wy h hk
        match sl with
        | 0 | 1 | 2 | 3 | 4 | 5 | 6 | 7 | 8 | 9 | 10 | 11 | 12 | 13 | 14 | 15 | 16 | 17 | 18 | 19 | 20 | 21 | 22 | 23 | 24 | 25 | 26 | 27 | 28 | 29 | 30 | 31 | 32 | 33 | 34 | 35 | 36 | 37 | 38 | 39 | 40 | 41 | 42 | 43 | 44 | 45 | 46 | 47 | 48 | 49 | 50 | 51 | 52 | 53 | 54 | 55 | 56 | 57 | 58 | 59 | 60 | 61 | 62 | 63 | 64 | 65 | 66 | 67 | 68 | 69 | 70 | 71 | 72 | 73 | 74 | 75 | 76 | 77 | 78 | 79 | 80 | 81 | 82 | 83 | 84 | 85 | 86 | 87 | 88 | 89 | 90 | 91 | 92 | 93 | 94 | 95 | 96 | 97 | 98 | 99 | 100 | 101 | 102 | 103 | 104 | 105 | 106 | 107 | 108 | 109 | _ + 110 => exact h
      case gg =>
        intro i o g b o' t u w ho hg hg1 hd hr
        match i, ho with
        | 0, ho => cases ho; cases hg
        | 1, ho => cases ho; cases hg
        | 2, ho => cases ho; cases hg
        | 3, ho =>
          cases ho; cases hg; cases hg1; cases hd
          have e : u = .bool false := hr
          rw [e]; rfl
        | 4, ho =>
          cases ho; cases hg; cases hg1; cases hd
          have e : u = .bool false := hr
          rw [e]; rfl
        | 5, ho =>
          cases ho; cases hg; cases hg1; cases hd
          have e : u = .bool false := hr
          rw [e]; rfl
        | 6, ho =>
          cases ho; cases hg; cases hg1; cases hd
          have e : u = .bool false := hr
          rw [e]; rfl
        | 7, ho =>
          cases ho; cases hg; cases hg1; cases hd
          have e : u = .bool false := hr
          rw [e]; rfl
        | 8, ho =>
          cases ho; cases hg; cases hg1; cases hd
          have e : u = .bool false := hr
          rw [e]; rfl
        | 9, ho =>
          cases ho; cases hg; cases hg1; cases hd
          have e : u = .bool false := hr
          rw [e]; rfl
        | 10, ho =>
          cases ho; cases hg; cases hg1; cases hd
          have e : u = .bool false := hr
          rw [e]; rfl
        | 11, ho =>
          cases ho; cases hg; cases hg1; cases hd
          have e : u = .bool false := hr
          rw [e]; rfl
        | 12, ho =>
          cases ho; cases hg; cases hg1; cases hd
          have e : u = .bool false := hr
          rw [e]; rfl
        | 13, ho =>
          cases ho; cases hg; cases hg1; cases hd
          have e : u = .bool false := hr
          rw [e]; rfl
        | 14, ho =>
          cases ho; cases hg; cases hg1; cases hd
          have e : u = .bool false := hr
          rw [e]; rfl
        | 15, ho =>
          cases ho; cases hg; cases hg1; cases hd
          have e : u = .bool false := hr
          rw [e]; rfl
        | 16, ho =>
          cases ho; cases hg; cases hg1; cases hd
          have e : u = .bool true := hr
          rw [e]; rfl
        | 17, ho =>
          cases ho; cases hg; cases hg1; cases hd
          have e : u = .bool true := hr
          rw [e]; rfl
        | 18, ho =>
          cases ho; cases hg; cases hg1; cases hd
          have e : u = .bool false := hr
          rw [e]; rfl
        | 19, ho => cases ho; cases hg
        | 20, ho => cases ho; cases hg
        | _ + 21, ho => cases ho
      case skip =>
        intro i o ho hG V w hV hj
        match i, ho with
        | 0, ho => exact absurd hG (by show ¬ (true = false); decide)
        | 1, ho => exact absurd hG (by show ¬ (true = false); decide)
        | 2, ho => exact absurd hG (by show ¬ (true = false); decide)
        | 3, ho => exact absurd hG (by show ¬ (true = false); decide)
        | 4, ho => exact absurd hG (by show ¬ (true = false); decide)
        | 5, ho => exact absurd hG (by show ¬ (true = false); decide)
        | 6, ho => exact absurd hG (by show ¬ (true = false); decide)
        | 7, ho => exact absurd hG (by show ¬ (true = false); decide)
        | 8, ho => exact absurd hG (by show ¬ (true = false); decide)
        | 9, ho => exact absurd hG (by show ¬ (true = false); decide)
        | 10, ho => cases ho; exact ⟨fun t ht => by cases ht; trivial, hj⟩
        | 11, ho => cases ho; exact ⟨fun t ht => by cases ht; trivial, hj⟩
        | 12, ho => cases ho; exact ⟨fun t ht => by cases ht; trivial, hj⟩
        | 13, ho => exact absurd hG (by show ¬ (true = false); decide)
        | 14, ho => exact absurd hG (by show ¬ (true = false); decide)
        | 15, ho => exact absurd hG (by show ¬ (true = false); decide)
        | 16, ho => exact absurd hG (by show ¬ (true = false); decide)
        | 17, ho => exact absurd hG (by show ¬ (true = false); decide)
        | 18, ho => exact absurd hG (by show ¬ (true = false); decide)
        | 19, ho => exact absurd hG (by show ¬ (true = false); decide)
        | 20, ho => exact absurd hG (by show ¬ (true = false); decide)
        | _ + 21, ho => cases ho
      case step =>
        intro j o ho hG
        match j, ho with
        | 0, ho =>
          cases ho
          intro V aa wx hV hdep hval hj hsm hr
          have e7 : aa.tmps.getD 7 undef = .bool true := hsm 7 (by decide)
          rw [Array.getD_eq_getD_getElem?] at e7
          unfold Oper.wp
          simp only [execOp, Act.eval, Array.getD_eq_getD_getElem?, e7]
          go_simp
          first | exact ⟨_, rfl, rfl, Below.refl _ _⟩ | exact ⟨_, rfl, rfl, Below.refl _ _, hj⟩ | exact ⟨_, rfl, Below.refl _ _, hj⟩ | exact ⟨_, rfl, hj⟩
        | 1, ho =>
          cases ho
          intro V aa wx hV hdep hval hj hsm hr
          have e90 : aa.tmps.getD 90 undef = .bool true := hr 90 (by decide) (by apply Array.mem_toList_iff.1; repeat (first | exact List.Mem.head _ | apply List.Mem.tail))
          rw [Array.getD_eq_getD_getElem?] at e90
          unfold Oper.wp
          simp only [execOp, Act.eval, Array.getD_eq_getD_getElem?, e90]
          go_simp
          first | exact ⟨_, rfl, rfl, Below.refl _ _⟩ | exact ⟨_, rfl, rfl, Below.refl _ _, hj⟩ | exact ⟨_, rfl, Below.refl _ _, hj⟩ | exact ⟨_, rfl, hj⟩
        | 2, ho =>
          cases ho
          intro V aa wx hV hdep hval hj hsm hr
          have e91 : aa.tmps.getD 91 undef = .bool false := hr 91 (by decide) (by apply Array.mem_toList_iff.1; repeat (first | exact List.Mem.head _ | apply List.Mem.tail))
          rw [Array.getD_eq_getD_getElem?] at e91
          unfold Oper.wp
          simp only [execOp, Act.eval, Array.getD_eq_getD_getElem?, e91]
          go_simp
          first | exact ⟨_, rfl, rfl, Below.refl _ _⟩ | exact ⟨_, rfl, rfl, Below.refl _ _, hj⟩ | exact ⟨_, rfl, Below.refl _ _, hj⟩ | exact ⟨_, rfl, hj⟩
        | 3, ho =>
          cases ho
          intro V aa wx hV hdep hval hj hsm hr
          have e8 : aa.tmps.getD 8 undef = .pointer (some ⟨D, 0, none⟩) := hsm 8 (by decide)
          have hkb := KA11.out.below hj KA11.out.lt
          have cc0 : wx.cell? ⟨D, 0, none⟩ = some (.int .u8 a.k) := hkb.cell 0
          have cc1 : wx.cell? ⟨D, 1, none⟩ = some (.int .i64 a.co) := hkb.cell 1
          have cc2 : wx.cell? ⟨D, 2, none⟩ = some (.int .i64 a.pe) := hkb.cell 2
          have cc3 : wx.cell? ⟨D, 3, none⟩ = some (.int .i64 a.tg) := hkb.cell 3
          have cc4 : wx.cell? ⟨D, 4, none⟩ = some (.int .i64 a.va) := hkb.cell 4
          have cc5 : wx.cell? ⟨D, 5, none⟩ = some (.int .i64 a.sz) := hkb.cell 5
          have cc6 : wx.cell? ⟨D, 6, none⟩ = some (.int .i64 a.ro) := hkb.cell 6
          have cc7 : wx.cell? ⟨D, 7, none⟩ = some (.int .u8 a.op) := hkb.cell 7
          have cc8 : wx.cell? ⟨D, 8, none⟩ = some (.slice rd a.rq.length cd) := hkb.cell 8
          have cc9 : wx.cell? ⟨D, 9, none⟩ = some (.int .i64 a.cl) := hkb.cell 9
          have cc10 : wx.cell? ⟨D, 10, none⟩ = some (.int .i64 a.ky) := hkb.cell 10
          rw [Array.getD_eq_getD_getElem?] at e8
          unfold Oper.wp
          simp only [execOp, Act.eval, Array.getD_eq_getD_getElem?, e8]
          go_simp
          first | exact ⟨_, rfl, rfl, Below.refl _ _⟩ | exact ⟨_, rfl, rfl, Below.refl _ _, hj⟩ | exact ⟨_, rfl, Below.refl _ _, hj⟩ | exact ⟨_, rfl, hj⟩
        | 4, ho =>
          cases ho
          intro V aa wx hV hdep hval hj hsm hr
          have e5 : aa.tmps.getD 5 undef = .pointer (some ⟨Z, 0, none⟩) := hsm 5 (by decide)
          have hkb := KZ11.out.below hj KZ11.out.lt
          have cc0 : wx.cell? ⟨Z, 0, none⟩ = some (.string ⟨#[]⟩) := hkb.cell 0
          have cc1 : wx.cell? ⟨Z, 1, none⟩ = some (.slice (some ⟨g, 0, none⟩) 64 64) := hkb.cell 1
          rw [Array.getD_eq_getD_getElem?] at e5
          unfold Oper.wp
          simp only [execOp, Act.eval, Array.getD_eq_getD_getElem?, e5]
          go_simp
          first | exact ⟨_, rfl, rfl, Below.refl _ _⟩ | exact ⟨_, rfl, rfl, Below.refl _ _, hj⟩ | exact ⟨_, rfl, Below.refl _ _, hj⟩ | exact ⟨_, rfl, hj⟩
        | 5, ho =>
          cases ho
          intro V aa wx hV hdep hval hj hsm hr
          have e93 : aa.tmps.getD 93 undef = .agg #[.int .u8 a.k, .int .i64 a.co, .int .i64 a.pe, .int .i64 a.tg, .int .i64 a.va, .int .i64 a.sz, .int .i64 a.ro, .int .u8 a.op, .slice rd a.rq.length cd, .int .i64 a.cl, .int .i64 a.ky] := hr 93 (by decide) (by apply Array.mem_toList_iff.1; repeat (first | exact List.Mem.head _ | apply List.Mem.tail))
          have e94 : aa.tmps.getD 94 undef = .agg #[.string ⟨#[]⟩, .slice (some ⟨g, 0, none⟩) 64 64] := hr 94 (by decide) (by apply Array.mem_toList_iff.1; repeat (first | exact List.Mem.head _ | apply List.Mem.tail))
          rw [Array.getD_eq_getD_getElem?] at e93
          rw [Array.getD_eq_getD_getElem?] at e94
          unfold Oper.wp
          simp only [execOp, Act.eval, Array.getD_eq_getD_getElem?, e93, e94]
          go_simp
          refine (MA11.out wx hj).mono ?_
          rintro e w' ⟨rfl, hb⟩
          exact ⟨_, rfl, by show Value.bool (decide (mayC a (Sp.upto 64))) = .bool false; rw [MV.out], hb, hj.trans (hb.mono hj.size)⟩
        | 6, ho =>
          cases ho
          intro V aa wx hV hdep hval hj hsm hr
          have e2 : aa.tmps.getD 2 undef = .pointer (some ⟨X, 0, none⟩) := hsm 2 (by decide)
          rw [Array.getD_eq_getD_getElem?] at e2
          unfold Oper.wp
          simp only [execOp, Act.eval, Array.getD_eq_getD_getElem?, e2]
          go_simp
          first | exact ⟨_, rfl, rfl, Below.refl _ _⟩ | exact ⟨_, rfl, rfl, Below.refl _ _, hj⟩ | exact ⟨_, rfl, Below.refl _ _, hj⟩ | exact ⟨_, rfl, hj⟩
        | 7, ho =>
          cases ho
          intro V aa wx hV hdep hval hj hsm hr
          have e96 : aa.tmps.getD 96 undef = .pointer (some ⟨X, 1, none⟩) := hr 96 (by decide) (by apply Array.mem_toList_iff.1; repeat (first | exact List.Mem.head _ | apply List.Mem.tail))
          have hkb := KC11.out.below hj KC11.out.lt
          have cc1 : wx.cell? ⟨X, 1, none⟩ = some (.int .i64 c.co) := hkb.cell 1
          rw [Array.getD_eq_getD_getElem?] at e96
          unfold Oper.wp
          simp only [execOp, Act.eval, Array.getD_eq_getD_getElem?, e96]
          go_simp
          first | exact ⟨_, rfl, rfl, Below.refl _ _⟩ | exact ⟨_, rfl, rfl, Below.refl _ _, hj⟩ | exact ⟨_, rfl, Below.refl _ _, hj⟩ | exact ⟨_, rfl, hj⟩
        | 8, ho =>
          cases ho
          intro V aa wx hV hdep hval hj hsm hr
          have e97 : aa.tmps.getD 97 undef = .int .i64 c.co := hr 97 (by decide) (by apply Array.mem_toList_iff.1; repeat (first | exact List.Mem.head _ | apply List.Mem.tail))
          rw [Array.getD_eq_getD_getElem?] at e97
          unfold Oper.wp
          simp only [execOp, Act.eval, Array.getD_eq_getD_getElem?, e97]
          go_simp
          first | exact ⟨_, rfl, (by show Value.bool (decide (0 ≤ c.co)) = .bool false; rw [decide_eq_false HC0.out]), Below.refl _ _⟩ | exact ⟨_, rfl, (by show Value.bool (decide (0 ≤ c.co)) = .bool false; rw [decide_eq_false HC0.out]), Below.refl _ _, hj⟩ | (trace_state; fail)
        | 9, ho =>
          cases ho
          intro V aa wx hV hdep hval hj hsm hr
          have e98 : aa.tmps.getD 98 undef = .bool false := hr 98 (by decide) (by apply Array.mem_toList_iff.1; repeat (first | exact List.Mem.head _ | apply List.Mem.tail))
          rw [Array.getD_eq_getD_getElem?] at e98
          unfold Oper.wp
          simp only [execOp, Act.eval, Array.getD_eq_getD_getElem?, e98]
          go_simp
          first | exact ⟨_, rfl, rfl, Below.refl _ _⟩ | exact ⟨_, rfl, rfl, Below.refl _ _, hj⟩ | exact ⟨_, rfl, Below.refl _ _, hj⟩ | exact ⟨_, rfl, hj⟩
        | 10, ho => exact absurd hG (by show ¬ (false = true); decide)
        | 11, ho => exact absurd hG (by show ¬ (false = true); decide)
        | 12, ho => exact absurd hG (by show ¬ (false = true); decide)
        | 13, ho =>
          cases ho
          intro V aa wx hV hdep hval hj hsm hr
          have e99 : aa.tmps.getD 99 undef = .bool false := hr 99 (by decide) (by apply Array.mem_toList_iff.1; repeat (first | exact List.Mem.head _ | apply List.Mem.tail))
          rw [Array.getD_eq_getD_getElem?] at e99
          unfold Oper.wp
          simp only [execOp, Act.eval, Array.getD_eq_getD_getElem?, e99]
          go_simp
          first | exact ⟨_, rfl, rfl, Below.refl _ _⟩ | exact ⟨_, rfl, rfl, Below.refl _ _, hj⟩ | exact ⟨_, rfl, Below.refl _ _, hj⟩ | exact ⟨_, rfl, hj⟩
        | 14, ho =>
          cases ho
          intro V aa wx hV hdep hval hj hsm hr
          have e95 : aa.tmps.getD 95 undef = .bool false := hr 95 (by decide) (by apply Array.mem_toList_iff.1; repeat (first | exact List.Mem.head _ | apply List.Mem.tail))
          have e103 : aa.tmps.getD 103 undef = .bool false := hr 103 (by decide) (by apply Array.mem_toList_iff.1; repeat (first | exact List.Mem.head _ | apply List.Mem.tail))
          rw [Array.getD_eq_getD_getElem?] at e95
          rw [Array.getD_eq_getD_getElem?] at e103
          unfold Oper.wp
          simp only [execOp, Act.eval, Array.getD_eq_getD_getElem?, e95, e103]
          go_simp
          first | exact ⟨_, rfl, rfl, Below.refl _ _⟩ | exact ⟨_, rfl, rfl, Below.refl _ _, hj⟩ | exact ⟨_, rfl, Below.refl _ _, hj⟩ | exact ⟨_, rfl, hj⟩
        | 15, ho =>
          cases ho
          intro V aa wx hV hdep hval hj hsm hr
          have e104 : aa.tmps.getD 104 undef = .bool true := hr 104 (by decide) (by apply Array.mem_toList_iff.1; repeat (first | exact List.Mem.head _ | apply List.Mem.tail))
          rw [Array.getD_eq_getD_getElem?] at e104
          unfold Oper.wp
          simp only [execOp, Act.eval, Array.getD_eq_getD_getElem?, e104]
          go_simp
          first | exact ⟨_, rfl, rfl, Below.refl _ _⟩ | exact ⟨_, rfl, rfl, Below.refl _ _, hj⟩ | exact ⟨_, rfl, Below.refl _ _, hj⟩ | exact ⟨_, rfl, hj⟩
        | 16, ho =>
          cases ho
          intro V aa wx hV hdep hval hj hsm hr
          have e8 : aa.tmps.getD 8 undef = .pointer (some ⟨D, 0, none⟩) := hsm 8 (by decide)
          have hkb := KA11.out.below hj KA11.out.lt
          have cc0 : wx.cell? ⟨D, 0, none⟩ = some (.int .u8 a.k) := hkb.cell 0
          have cc1 : wx.cell? ⟨D, 1, none⟩ = some (.int .i64 a.co) := hkb.cell 1
          have cc2 : wx.cell? ⟨D, 2, none⟩ = some (.int .i64 a.pe) := hkb.cell 2
          have cc3 : wx.cell? ⟨D, 3, none⟩ = some (.int .i64 a.tg) := hkb.cell 3
          have cc4 : wx.cell? ⟨D, 4, none⟩ = some (.int .i64 a.va) := hkb.cell 4
          have cc5 : wx.cell? ⟨D, 5, none⟩ = some (.int .i64 a.sz) := hkb.cell 5
          have cc6 : wx.cell? ⟨D, 6, none⟩ = some (.int .i64 a.ro) := hkb.cell 6
          have cc7 : wx.cell? ⟨D, 7, none⟩ = some (.int .u8 a.op) := hkb.cell 7
          have cc8 : wx.cell? ⟨D, 8, none⟩ = some (.slice rd a.rq.length cd) := hkb.cell 8
          have cc9 : wx.cell? ⟨D, 9, none⟩ = some (.int .i64 a.cl) := hkb.cell 9
          have cc10 : wx.cell? ⟨D, 10, none⟩ = some (.int .i64 a.ky) := hkb.cell 10
          rw [Array.getD_eq_getD_getElem?] at e8
          unfold Oper.wp
          simp only [execOp, Act.eval, Array.getD_eq_getD_getElem?, e8]
          go_simp
          first | exact ⟨_, rfl, rfl, Below.refl _ _⟩ | exact ⟨_, rfl, rfl, Below.refl _ _, hj⟩ | exact ⟨_, rfl, Below.refl _ _, hj⟩ | exact ⟨_, rfl, hj⟩
        | 17, ho =>
          cases ho
          intro V aa wx hV hdep hval hj hsm hr
          have e106 : aa.tmps.getD 106 undef = .agg #[.int .u8 a.k, .int .i64 a.co, .int .i64 a.pe, .int .i64 a.tg, .int .i64 a.va, .int .i64 a.sz, .int .i64 a.ro, .int .u8 a.op, .slice rd a.rq.length cd, .int .i64 a.cl, .int .i64 a.ky] := hr 106 (by decide) (by apply Array.mem_toList_iff.1; repeat (first | exact List.Mem.head _ | apply List.Mem.tail))
          rw [Array.getD_eq_getD_getElem?] at e106
          unfold Oper.wp
          simp only [execOp, Act.eval, Array.getD_eq_getD_getElem?, e106]
          go_simp
          refine (Decides_a a rd cd wx).mono ?_
          rintro e w' ⟨rfl, hb⟩
          exact ⟨_, rfl, by show Value.bool (decC a) = .bool true; rw [DV.out], hb, hj.trans (hb.mono hj.size)⟩
        | 18, ho =>
          cases ho
          intro V aa wx hV hdep hval hj hsm hr
          have e105 : aa.tmps.getD 105 undef = .bool true := hr 105 (by decide) (by apply Array.mem_toList_iff.1; repeat (first | exact List.Mem.head _ | apply List.Mem.tail))
          have e107 : aa.tmps.getD 107 undef = .bool true := hr 107 (by decide) (by apply Array.mem_toList_iff.1; repeat (first | exact List.Mem.head _ | apply List.Mem.tail))
          rw [Array.getD_eq_getD_getElem?] at e105
          rw [Array.getD_eq_getD_getElem?] at e107
          unfold Oper.wp
          simp only [execOp, Act.eval, Array.getD_eq_getD_getElem?, e105, e107]
          go_simp
          first | exact ⟨_, rfl, rfl, Below.refl _ _⟩ | exact ⟨_, rfl, rfl, Below.refl _ _, hj⟩ | exact ⟨_, rfl, Below.refl _ _, hj⟩ | exact ⟨_, rfl, hj⟩
        | 19, ho =>
          cases ho
          intro V aa wx hV hdep hval hj hsm hr
          have e92 : aa.tmps.getD 92 undef = .bool false := hr 92 (by decide) (by apply Array.mem_toList_iff.1; repeat (first | exact List.Mem.head _ | apply List.Mem.tail))
          have e108 : aa.tmps.getD 108 undef = .bool true := hr 108 (by decide) (by apply Array.mem_toList_iff.1; repeat (first | exact List.Mem.head _ | apply List.Mem.tail))
          rw [Array.getD_eq_getD_getElem?] at e92
          rw [Array.getD_eq_getD_getElem?] at e108
          unfold Oper.wp
          simp only [execOp, Act.eval, Array.getD_eq_getD_getElem?, e92, e108]
          go_simp
          first | exact ⟨_, rfl, rfl, Below.refl _ _⟩ | exact ⟨_, rfl, rfl, Below.refl _ _, hj⟩ | exact ⟨_, rfl, Below.refl _ _, hj⟩ | exact ⟨_, rfl, hj⟩
        | 20, ho =>
          cases ho
          intro V aa wx hV hdep hval hj hsm hr
          have e109 : aa.tmps.getD 109 undef = .bool true := hr 109 (by decide) (by apply Array.mem_toList_iff.1; repeat (first | exact List.Mem.head _ | apply List.Mem.tail))
          rw [Array.getD_eq_getD_getElem?] at e109
          unfold Oper.wp
          simp only [execOp, Act.eval, Array.getD_eq_getD_getElem?, e109]
          go_simp
          first | exact ⟨_, rfl, rfl, Below.refl _ _⟩ | exact ⟨_, rfl, rfl, Below.refl _ _, hj⟩ | exact ⟨_, rfl, Below.refl _ _, hj⟩ | exact ⟨_, rfl, hj⟩
        | _ + 21, ho => cases ho
      case fin =>
        intro ff V wz hV hj hr
        have e4 : ff 4 = .bool true := hr 4 (by decide)
        have HZF := hide (HF.out.trans (hj.mono HF.out.size))
        clear hV hr hj
        simp only [putAll, slotsOf, List.filterMap_cons, List.filterMap_nil, List.foldl_cons, List.foldl_nil, Act.put, e4]
        simp only [List.setIfInBounds_toArray, List.set_cons_succ, List.set_cons_zero]
        go_wp2_with fail
        go_ret
        exact ⟨rfl, HZF.out⟩
end Go.Proofs.YthcoelkpiflfeaaDoor.CallOpenW
