/- The walk of the statement CallTrim. -/
import Derived.Test.YthcoelkpiflfeaaDoorRows
import Derived.Test.YthcoelkpiflfeaaDoorCtO
import Derived.Test.YthcoelkpiflfeaaDoorCtT
import Derived.Test.YthcoelkpiflfeaaDoorCtM
import Derived.Test.YthcoelkpiflfeaaDoorCtIn
import Derived.Test.YthcoelkpiflfeaaDoorCalN
import Derived.Test.YthcoelkpiflfeaaDoorCalH
import Derived.Test.YthcoelkpiflfeaaDoorToldC
import Derived.Test.YthcoelkpiflfeaaDoorCtEnv
namespace Go.Proofs.YthcoelkpiflfeaaDoor.CallTrimW
open Go Go.RowKit Go.Lib Go.Proofs.YthcoelkpiflfeaaDoor Go.Proofs.YthcoelkpiflfeaaDoor.Grp Go.Proofs.YthcoelkpiflfeaaDoor.Cal
set_option linter.unusedVariables false
set_option linter.unusedSimpArgs false
theorem trim_trim (c : Cl) : trimC (trimC c) = trimC c := by
  by_cases h : usedL c.k = []
  · have e : usedL (0 : Int) = [] := by decide
    simp [trimC, h, hasF, e]
  · exact (Agr.self h).trim
set_option maxRecDepth 100000 in
set_option maxHeartbeats 32000000 in
theorem walk {H : Type} {enc : TypeId × Value → H} {base : Nat} (W : World) (HEN : Env W) (v0 : Value) (d0 : DataW H) (p0 : List MemPlace) (o0 : Value.okWide Tryd.prog W .any base 24 v0) (r0 : DataW.Trod enc Tryd.prog W 0 (fun _ => true) true 24 v0 d0 p0) (v1 : Value) (d1 : DataW H) (p1 : List MemPlace) (o1 : Value.okWide Tryd.prog W .any base 24 v1) (r1 : DataW.Trod enc Tryd.prog W 0 (fun _ => true) true 24 v1 d1 p1) (v2 : Value) (d2 : DataW H) (p2 : List MemPlace) (o2 : Value.okWide Tryd.prog W .any base 37 v2) (r2 : DataW.Trod enc Tryd.prog W 0 (fun _ => true) true 37 v2 d2 p2) :
    Calls Tryd.prog 5 #[v0, v1, v2] W fun e w' => e = .returned (.bool true) ∧ Below W.heap.size W w' := by
  obtain ⟨c, ra, rc, rfl, hra, hok, hrc⟩ := call_in o0 r0 (fun _ => rfl)
  obtain ⟨o, ro2, rco, rfl, hro, hoo, hrco⟩ := call_in o1 r1 (fun _ => rfl)
  obtain ⟨key, A, l, gc, rfl, hrg⟩ := group_of o2 r2 (fun _ => rfl)
  clear o0 r0 o1 r1 o2 r2
  unfold Cl.A clA
  have b2 := (((Below.refl W.heap.size W).alloc (Nat.le_refl _) (.cells #[.int .u8 c.k, .int .i64 c.co, .int .i64 c.pe, .int .i64 c.tg, .int .i64 c.va, .int .i64 c.sz, .int .i64 c.ro, .int .u8 c.op, .slice ra c.rq.length rc, .int .i64 c.cl, .int .i64 c.ky] 24)).alloc (by simp) (.cells #[.int .u8 o.k, .int .i64 o.co, .int .i64 o.pe, .int .i64 o.tg, .int .i64 o.va, .int .i64 o.sz, .int .i64 o.ro, .int .u8 o.op, .slice ro2 o.rq.length rco, .int .i64 o.cl, .int .i64 o.ky] 24)).alloc (by simp; omega) (.cells #[.string key, .slice A l.length gc] 37)
  have k0 := Blk.new W 24 #[.int .u8 c.k, .int .i64 c.co, .int .i64 c.pe, .int .i64 c.tg, .int .i64 c.va, .int .i64 c.sz, .int .i64 c.ro, .int .u8 c.op, .slice ra c.rq.length rc, .int .i64 c.cl, .int .i64 c.ky]
  have a1 := (Below.refl (W.alloc (.cells #[.int .u8 c.k, .int .i64 c.co, .int .i64 c.pe, .int .i64 c.tg, .int .i64 c.va, .int .i64 c.sz, .int .i64 c.ro, .int .u8 c.op, .slice ra c.rq.length rc, .int .i64 c.cl, .int .i64 c.ky] 24)).heap.size _).alloc (Nat.le_refl _) (.cells #[.int .u8 o.k, .int .i64 o.co, .int .i64 o.pe, .int .i64 o.tg, .int .i64 o.va, .int .i64 o.sz, .int .i64 o.ro, .int .u8 o.op, .slice ro2 o.rq.length rco, .int .i64 o.cl, .int .i64 o.ky] 24)
  have k0b := k0.below a1 k0.lt
  have k1 := Blk.new (W.alloc (.cells #[.int .u8 c.k, .int .i64 c.co, .int .i64 c.pe, .int .i64 c.tg, .int .i64 c.va, .int .i64 c.sz, .int .i64 c.ro, .int .u8 c.op, .slice ra c.rq.length rc, .int .i64 c.cl, .int .i64 c.ky] 24)) 24 #[.int .u8 o.k, .int .i64 o.co, .int .i64 o.pe, .int .i64 o.tg, .int .i64 o.va, .int .i64 o.sz, .int .i64 o.ro, .int .u8 o.op, .slice ro2 o.rq.length rco, .int .i64 o.cl, .int .i64 o.ky]
  rw [show (W.alloc (.cells #[.int .u8 c.k, .int .i64 c.co, .int .i64 c.pe, .int .i64 c.tg, .int .i64 c.va, .int .i64 c.sz, .int .i64 c.ro, .int .u8 c.op, .slice ra c.rq.length rc, .int .i64 c.cl, .int .i64 c.ky] 24)).heap.size = W.heap.size + 1 by simp] at k1
  go_enter Tryd.func5, Tryd.ntmps5
  go_upto_region 1 with (fail)
  obtain ⟨wA, hwA⟩ : ∃ y, (W.alloc (.cells #[.int .u8 c.k, .int .i64 c.co, .int .i64 c.pe, .int .i64 c.tg, .int .i64 c.va, .int .i64 c.sz, .int .i64 c.ro, .int .u8 c.op, .slice ra c.rq.length rc, .int .i64 c.cl, .int .i64 c.ky] 24)).alloc (.cells #[.int .u8 o.k, .int .i64 o.co, .int .i64 o.pe, .int .i64 o.tg, .int .i64 o.va, .int .i64 o.sz, .int .i64 o.ro, .int .u8 o.op, .slice ro2 o.rq.length rco, .int .i64 o.cl, .int .i64 o.ky] 24) = y := ⟨_, rfl⟩
  have sA : wA.heap.size = W.heap.size + 2 := by rw [← hwA]; simp
  rw [hwA] at k0b k1 b2 ⊢
  have a2 := (Below.refl wA.heap.size wA).alloc (Nat.le_refl _) (.cells #[.string key, .slice A l.length gc] 37)
  have k2 := Blk.new wA 37 #[.string key, .slice A l.length gc]
  rw [sA] at k2
  obtain ⟨w2, hw2⟩ : ∃ y, wA.alloc (.cells #[.string key, .slice A l.length gc] 37) = y := ⟨_, rfl⟩
  rw [hw2] at a2 k2 b2 ⊢
  have k0c := k0b.below a2 k0b.lt
  have k1c := k1.below a2 k1.lt
  have HEB := hide (fun (w' : World) (hb : Below W.heap.size W w') => HEN.below hb (Nat.le_refl _))
  have HRA := hide (fun (w' : World) (hb : Below W.heap.size W w') => hra.below hb)
  have HRO := hide (fun (w' : World) (hb : Below W.heap.size W w') => hro.below hb)
  have HRG := hide (fun (w' : World) (hb : Below W.heap.size W w') => hrg.below hb)
  have HB2 := hide (And.intro b2 b2.size)
  obtain ⟨X, hX⟩ : ∃ X, W.heap.size = X := ⟨_, rfl⟩
  obtain ⟨Xo, hXo⟩ : ∃ Y, W.heap.size + 1 = Y := ⟨_, rfl⟩
  obtain ⟨Y, hY⟩ : ∃ Y, W.heap.size + 2 = Y := ⟨_, rfl⟩
  rw [hX] at k0c
  rw [hXo] at k1c
  rw [hY] at k2
  rw [hX, show X + 1 + 1 = Y by rw [← hX]; exact hY, show X + 1 = Xo by rw [← hX]; exact hXo]
  have KC2 := hide k0c
  have KO2 := hide k1c
  have KG2 := hide k2
  have OK := hide hok
  have HRC := hide hrc
  have AW := hide (awake_c Told.told_a w2 (HEB.out w2 HB2.out.1))
  have HOO := hide hoo
  have HRCO := hide hrco
  clear b2 k0 a1 k0b k1 a2 k2 k0c k1c hwA sA hw2 hra hro hrg hok hoo hrc hrco HEN hX hXo hY
  go_wp2_with fail
  refine AW.out.mono ?_
  rintro e w3 ⟨rfl, hb3⟩
  have HB3 := hide (And.intro (HB2.out.1.trans (hb3.mono HB2.out.2)) (Nat.le_trans HB2.out.2 hb3.size))
  have KC3 := hide (KC2.out.below hb3 KC2.out.lt)
  have KO3 := hide (KO2.out.below hb3 KO2.out.lt)
  have KG3 := hide (KG2.out.below hb3 KG2.out.lt)
  clear hb3 AW KC2 KO2 KG2 HB2
  have x8 : w3.cell? ⟨X, 8, none⟩ = some (.slice ra c.rq.length rc) := KC3.out.cell 8
  have o8 : w3.cell? ⟨Xo, 8, none⟩ = some (.slice ro2 o.rq.length rco) := KO3.out.cell 8
  have y1 : w3.cell? ⟨Y, 1, none⟩ = some (.slice A l.length gc) := KG3.out.cell 1
  by_cases g1 : 60 < c.rq.length
  · have g1I : (60 : Int) < (c.rq.length : Int) := by omega
    go_wp2_with fail
    go_ret
    exact ⟨rfl, HB3.out.1⟩
  have g1I : ¬ (60 : Int) < (c.rq.length : Int) := by omega
  by_cases g2 : 60 < o.rq.length
  · have g2I : (60 : Int) < (o.rq.length : Int) := by omega
    go_wp2_with fail
    go_ret
    exact ⟨rfl, HB3.out.1⟩
  have g2I : ¬ (60 : Int) < (o.rq.length : Int) := by omega
  by_cases g3 : 100 < l.length
  · have g3I : (100 : Int) < (l.length : Int) := by omega
    go_wp2_with fail
    go_ret
    exact ⟨rfl, HB3.out.1⟩
  have g3I : ¬ (100 : Int) < (l.length : Int) := by omega
  have HG1 := hide (show c.rq.length ≤ 60 by omega)
  have HG2 := hide (show o.rq.length ≤ 60 by omega)
  have HG3 := hide (show l.length ≤ 100 by omega)
  obtain ⟨t, ht⟩ : ∃ t, trimC c = t := ⟨_, rfl⟩
  have TR := hide (Trim_a c ra rc w3 (HRA.out w3 HB3.out.1) (by omega) OK.out.op)
  rw [ht] at TR
  have HT := hide ht
  have HTT : Hid (trimC t = t) := hide (by rw [← ht]; exact trim_trim c)
  have HTL : Hid (t.rq.length ≤ 60) := hide (by
    rw [← ht]
    show (if hasF c.k 7 then c.rq else []).length ≤ 60
    split
    · omega
    · exact Nat.zero_le _)
  have HTO : Hid (0 ≤ t.op ∧ t.op ≤ 255) := hide (by
    rw [← ht]
    show 0 ≤ (if hasF c.k 6 then c.op else 0) ∧ (if hasF c.k 6 then c.op else 0) ≤ 255
    split
    · exact OK.out.op
    · omega)
  have q0 : w3.cell? ⟨X, 0, none⟩ = some (.int .u8 c.k) := KC3.out.cell 0
  have q1 : w3.cell? ⟨X, 1, none⟩ = some (.int .i64 c.co) := KC3.out.cell 1
  have q2 : w3.cell? ⟨X, 2, none⟩ = some (.int .i64 c.pe) := KC3.out.cell 2
  have q3 : w3.cell? ⟨X, 3, none⟩ = some (.int .i64 c.tg) := KC3.out.cell 3
  have q4 : w3.cell? ⟨X, 4, none⟩ = some (.int .i64 c.va) := KC3.out.cell 4
  have q5 : w3.cell? ⟨X, 5, none⟩ = some (.int .i64 c.sz) := KC3.out.cell 5
  have q6 : w3.cell? ⟨X, 6, none⟩ = some (.int .i64 c.ro) := KC3.out.cell 6
  have q7 : w3.cell? ⟨X, 7, none⟩ = some (.int .u8 c.op) := KC3.out.cell 7
  have q8 : w3.cell? ⟨X, 8, none⟩ = some (.slice ra c.rq.length rc) := KC3.out.cell 8
  have q9 : w3.cell? ⟨X, 9, none⟩ = some (.int .i64 c.cl) := KC3.out.cell 9
  have q10 : w3.cell? ⟨X, 10, none⟩ = some (.int .i64 c.ky) := KC3.out.cell 10
  clear g1 g2 g3 ht x8
  unfold Cl.A at TR
  unfold clA at TR
  go_wp2_with fail
  refine TR.out.mono ?_
  rintro e w4 ⟨rt, ct, rfl, hown, hb4⟩
  have HB4 := hide (And.intro (HB3.out.1.trans (hb4.mono HB3.out.2)) (Nat.le_trans HB3.out.2 hb4.size))
  have KC4 := hide (KC3.out.below hb4 KC3.out.lt)
  have KO4 := hide (KO3.out.below hb4 KO3.out.lt)
  have KG4 := hide (KG3.out.below hb4 KG3.out.lt)
  have NT4 := hide (own_row hown rfl)
  have HCT := hide (own_cap hown)
  clear hown hb4 TR KC3 KO3 KG3 HB3 o8 y1 g1I g2I g3I q0 q1 q2 q3 q4 q5 q6 q7 q8 q9 q10
  have ba := (Below.refl w4.heap.size w4).alloc (Nat.le_refl _) (.cells #[.int .u8 t.k, .int .i64 t.co, .int .i64 t.pe, .int .i64 t.tg, .int .i64 t.va, .int .i64 t.sz, .int .i64 t.ro, .int .u8 t.op, .slice rt t.rq.length ct, .int .i64 t.cl, .int .i64 t.ky] 24)
  have kp := Blk.new w4 24 #[.int .u8 t.k, .int .i64 t.co, .int .i64 t.pe, .int .i64 t.tg, .int .i64 t.va, .int .i64 t.sz, .int .i64 t.ro, .int .u8 t.op, .slice rt t.rq.length ct, .int .i64 t.cl, .int .i64 t.ky]
  obtain ⟨w5, hww5⟩ : ∃ y, w4.alloc (.cells #[.int .u8 t.k, .int .i64 t.co, .int .i64 t.pe, .int .i64 t.tg, .int .i64 t.va, .int .i64 t.sz, .int .i64 t.ro, .int .u8 t.op, .slice rt t.rq.length ct, .int .i64 t.cl, .int .i64 t.ky] 24) = y := ⟨_, rfl⟩
  obtain ⟨T, hnT⟩ : ∃ T, w4.heap.size = T := ⟨_, rfl⟩
  rw [hww5] at ba kp
  rw [hnT] at kp
  have HWw5 := hide hww5
  have HNT := hide hnT
  have KT := hide kp
  have HAT := hide ba
  clear ba kp hww5 hnT
  have HB5 := hide (And.intro (HB4.out.1.trans (HAT.out.mono HB4.out.2)) (Nat.le_trans HB4.out.2 HAT.out.size))
  have KC := hide (KC4.out.below HAT.out KC4.out.lt)
  have KO := hide (KO4.out.below HAT.out KO4.out.lt)
  have KG := hide (KG4.out.below HAT.out KG4.out.lt)
  have NT := hide (NT4.out.below HAT.out)
  go_upto_region 6 with (fail)
  rw [HWw5.out, HNT.out]
  clear KC4 KO4 KG4 NT4 HB4 HAT HWw5 HNT
  obtain ⟨bm, hbm⟩ : ∃ b, decide (mayC c l) = b := ⟨_, rfl⟩
  have HBM := hide hbm
  have HBN : Hid (decide (mayC t l) = bm) := hide (by
    rw [← hbm]
    by_cases h0 : usedL c.k = []
    · have := none_may h0 l
      rw [HT.out] at this
      rw [decide_eq_false this.1, decide_eq_false this.2]
    · have := (Agr.self h0).may l
      rw [HT.out] at this
      exact decide_eq_decide.2 this)
  obtain ⟨bd, hbd⟩ : ∃ b, decC c = b := ⟨_, rfl⟩
  have HBD := hide hbd
  have HBE : Hid (bd = true → decC t = true) := hide (fun h => by
    by_cases h0 : usedL c.k = []
    · rw [none_dec h0] at hbd; rw [← hbd] at h; cases h
    · have := (Agr.self h0).dec
      rw [HT.out] at this
      rw [this, hbd, h])
  have TRT := hide (fun w' (h : NRow w' rt t.rq) => Trim_a t rt ct w' h (by have := HTL.out; omega) HTO.out)
  rw [HTT.out] at TRT
  clear hbm hbd
  go_cut [54] from 32 to 53 (fun x wx => x = .bool false ∧ Below w5.heap.size w5 wx)
  case first =>
    cases bd with
    | false =>
      let R : Nat → Value → World → Prop := fun sl u w1 => match sl with
        | 32 => u = .agg #[.int .u8 t.k, .int .i64 t.co, .int .i64 t.pe, .int .i64 t.tg, .int .i64 t.va, .int .i64 t.sz, .int .i64 t.ro, .int .u8 t.op, .slice rt t.rq.length ct, .int .i64 t.cl, .int .i64 t.ky]
        | 33 => ∃ rb rd, u = .agg (t.A rb rd) ∧ NRow w1 rb t.rq
        | 34 => u = .agg #[.int .u8 t.k, .int .i64 t.co, .int .i64 t.pe, .int .i64 t.tg, .int .i64 t.va, .int .i64 t.sz, .int .i64 t.ro, .int .u8 t.op, .slice rt t.rq.length ct, .int .i64 t.cl, .int .i64 t.ky]
        | 35 => u = .bool true
        | 36 => u = .bool false
        | 37 => u = .bool false
        | 38 => u = .agg #[.int .u8 c.k, .int .i64 c.co, .int .i64 c.pe, .int .i64 c.tg, .int .i64 c.va, .int .i64 c.sz, .int .i64 c.ro, .int .u8 c.op, .slice ra c.rq.length rc, .int .i64 c.cl, .int .i64 c.ky]
        | 39 => u = .agg #[.string key, .slice A l.length gc]
        | 40 => u = .bool bm
        | 41 => u = .agg #[.int .u8 t.k, .int .i64 t.co, .int .i64 t.pe, .int .i64 t.tg, .int .i64 t.va, .int .i64 t.sz, .int .i64 t.ro, .int .u8 t.op, .slice rt t.rq.length ct, .int .i64 t.cl, .int .i64 t.ky]
        | 42 => u = .agg #[.string key, .slice A l.length gc]
        | 43 => u = .bool bm
        | 44 => u = .bool false
        | 45 => u = .bool false
        | 46 => u = .bool false
        | 47 => u = .agg #[.int .u8 c.k, .int .i64 c.co, .int .i64 c.pe, .int .i64 c.tg, .int .i64 c.va, .int .i64 c.sz, .int .i64 c.ro, .int .u8 c.op, .slice ra c.rq.length rc, .int .i64 c.cl, .int .i64 c.ky]
        | 48 => u = .bool false
        | 49 => u = .bool false
        | 53 => u = .bool false
        | 54 => u = .bool false
        | _ => True
      let G0 : Nat → Bool := fun i => match i with | 18 => false | 19 => false | 20 => false | _ => true
      refine wp_region_relG G0 R (fun a b => Below a.heap.size a b) (fun _ w => Below w5.heap.size w5 w) (by kernel_rfl) (by kernel_rfl) (by kernel_rfl) ?mono (fun w => Below.refl _ _) ((Below.refl _ _).drew) (by kernel_rfl) ?gg ?step ?skip ?fin
      case mono =>
        intro sl u wx wy h hk
        match sl with
        | 33 =>
          obtain ⟨rb, rd, h1, h2⟩ := h
          exact ⟨rb, rd, h1, h2.below hk⟩
        | 0 | 1 | 2 | 3 | 4 | 5 | 6 | 7 | 8 | 9 | 10 | 11 | 12 | 13 | 14 | 15 | 16 | 17 | 18 | 19 | 20 | 21 | 22 | 23 | 24 | 25 | 26 | 27 | 28 | 29 | 30 | 31 | 32 | 34 | 35 | 36 | 37 | 38 | 39 | 40 | 41 | 42 | 43 | 44 | 45 | 46 | 47 | 48 | 49 | 50 | 51 | 52 | 53 | 54 | _ + 55 => exact h
      case gg =>
        intro i o g b o' t u w ho hg hg1 hd hr
        match i, ho with
        | 0, ho => cases ho; cases hg
        | 1, ho => cases ho; cases hg
        | 2, ho => cases ho; cases hg
        | 3, ho => cases ho; cases hg
        | 4, ho => cases ho; cases hg
        | 5, ho => cases ho; cases hg
        | 6, ho =>
          cases ho; cases hg; cases hg1; cases hd
          have e : u = .bool false := hr
          rw [e]; rfl
        | 7, ho =>
          cases ho; cases hg; cases hg1; cases hd
          have e : u = .bool false := hr
          rw [e]; rfl
        | 8, ho =>
          cases ho; cases hg; cases hg1; cases hd
          have e : u = .bool false := hr
          rw [e]; rfl
        | 9, ho =>
          cases ho; cases hg; cases hg1; cases hd
          have e : u = .bool false := hr
          rw [e]; rfl
        | 10, ho =>
          cases ho; cases hg; cases hg1; cases hd
          have e : u = .bool false := hr
          rw [e]; rfl
        | 11, ho =>
          cases ho; cases hg; cases hg1; cases hd
          have e : u = .bool false := hr
          rw [e]; rfl
        | 12, ho =>
          cases ho; cases hg; cases hg1; cases hd
          have e : u = .bool false := hr
          rw [e]; rfl
        | 13, ho => cases ho; cases hg
        | 14, ho => cases ho; cases hg
        | 15, ho =>
          cases ho; cases hg; cases hg1; cases hd
          have e : u = .bool false := hr
          rw [e]; rfl
        | 16, ho =>
          cases ho; cases hg; cases hg1; cases hd
          have e : u = .bool false := hr
          rw [e]; rfl
        | 17, ho =>
          cases ho; cases hg; cases hg1; cases hd
          have e : u = .bool false := hr
          rw [e]; rfl
        | 18, ho =>
          cases ho; cases hg; cases hg1; cases hd
          have e : u = .bool false := hr
          rw [e]; rfl
        | 19, ho =>
          cases ho; cases hg; cases hg1; cases hd
          have e : u = .bool false := hr
          rw [e]; rfl
        | 20, ho =>
          cases ho; cases hg; cases hg1; cases hd
          have e : u = .bool false := hr
          rw [e]; rfl
        | 21, ho =>
          cases ho; cases hg; cases hg1; cases hd
          have e : u = .bool false := hr
          rw [e]; rfl
        | 22, ho => cases ho; cases hg
        | _ + 23, ho => cases ho
      case skip =>
        intro i o ho hG V w hV hj
        match i, ho with
        | 0, ho => exact absurd hG (by show ¬ (true = false); decide)
        | 1, ho => exact absurd hG (by show ¬ (true = false); decide)
        | 2, ho => exact absurd hG (by show ¬ (true = false); decide)
        | 3, ho => exact absurd hG (by show ¬ (true = false); decide)
        | 4, ho => exact absurd hG (by show ¬ (true = false); decide)
        | 5, ho => exact absurd hG (by show ¬ (true = false); decide)
        | 6, ho => exact absurd hG (by show ¬ (true = false); decide)
        | 7, ho => exact absurd hG (by show ¬ (true = false); decide)
        | 8, ho => exact absurd hG (by show ¬ (true = false); decide)
        | 9, ho => exact absurd hG (by show ¬ (true = false); decide)
        | 10, ho => exact absurd hG (by show ¬ (true = false); decide)
        | 11, ho => exact absurd hG (by show ¬ (true = false); decide)
        | 12, ho => exact absurd hG (by show ¬ (true = false); decide)
        | 13, ho => exact absurd hG (by show ¬ (true = false); decide)
        | 14, ho => exact absurd hG (by show ¬ (true = false); decide)
        | 15, ho => exact absurd hG (by show ¬ (true = false); decide)
        | 16, ho => exact absurd hG (by show ¬ (true = false); decide)
        | 17, ho => exact absurd hG (by show ¬ (true = false); decide)
        | 18, ho => cases ho; exact ⟨fun t ht => by cases ht; trivial, hj⟩
        | 19, ho => cases ho; exact ⟨fun t ht => by cases ht; trivial, hj⟩
        | 20, ho => cases ho; exact ⟨fun t ht => by cases ht; trivial, hj⟩
        | 21, ho => exact absurd hG (by show ¬ (true = false); decide)
        | 22, ho => exact absurd hG (by show ¬ (true = false); decide)
        | _ + 23, ho => cases ho
      case step =>
        intro j o ho hG
        match j, ho with
        | 0, ho =>
          cases ho
          intro V aa wx hV hdep hval hj hsm hr
          have e7 : aa.tmps.getD 7 undef = .pointer (some ⟨T, 0, none⟩) := hsm 7 (by decide)
          have hkb := KT.out.below hj KT.out.lt
          have cc0 : wx.cell? ⟨T, 0, none⟩ = some (.int .u8 t.k) := hkb.cell 0
          have cc1 : wx.cell? ⟨T, 1, none⟩ = some (.int .i64 t.co) := hkb.cell 1
          have cc2 : wx.cell? ⟨T, 2, none⟩ = some (.int .i64 t.pe) := hkb.cell 2
          have cc3 : wx.cell? ⟨T, 3, none⟩ = some (.int .i64 t.tg) := hkb.cell 3
          have cc4 : wx.cell? ⟨T, 4, none⟩ = some (.int .i64 t.va) := hkb.cell 4
          have cc5 : wx.cell? ⟨T, 5, none⟩ = some (.int .i64 t.sz) := hkb.cell 5
          have cc6 : wx.cell? ⟨T, 6, none⟩ = some (.int .i64 t.ro) := hkb.cell 6
          have cc7 : wx.cell? ⟨T, 7, none⟩ = some (.int .u8 t.op) := hkb.cell 7
          have cc8 : wx.cell? ⟨T, 8, none⟩ = some (.slice rt t.rq.length ct) := hkb.cell 8
          have cc9 : wx.cell? ⟨T, 9, none⟩ = some (.int .i64 t.cl) := hkb.cell 9
          have cc10 : wx.cell? ⟨T, 10, none⟩ = some (.int .i64 t.ky) := hkb.cell 10
          rw [Array.getD_eq_getD_getElem?] at e7
          unfold Oper.wp
          simp only [execOp, Act.eval, Array.getD_eq_getD_getElem?, e7]
          go_simp
          first | exact ⟨_, rfl, rfl, Below.refl _ _⟩ | exact ⟨_, rfl, rfl, Below.refl _ _, hj⟩ | exact ⟨_, rfl, Below.refl _ _, hj⟩ | exact ⟨_, rfl, hj⟩
        | 1, ho =>
          cases ho
          intro V aa wx hV hdep hval hj hsm hr
          have e32 : aa.tmps.getD 32 undef = .agg #[.int .u8 t.k, .int .i64 t.co, .int .i64 t.pe, .int .i64 t.tg, .int .i64 t.va, .int .i64 t.sz, .int .i64 t.ro, .int .u8 t.op, .slice rt t.rq.length ct, .int .i64 t.cl, .int .i64 t.ky] := hr 32 (by decide) (by apply Array.mem_toList_iff.1; repeat (first | exact List.Mem.head _ | apply List.Mem.tail))
          rw [Array.getD_eq_getD_getElem?] at e32
          unfold Oper.wp
          simp only [execOp, Act.eval, Array.getD_eq_getD_getElem?, e32]
          go_simp
          refine (TRT.out wx (NT.out.below hj)).mono ?_
          rintro e w' ⟨rb, rd, rfl, hown, hb⟩
          exact ⟨_, rfl, ⟨rb, rd, rfl, own_row hown rfl⟩, hb, hj.trans (hb.mono hj.size)⟩
        | 2, ho =>
          cases ho
          intro V aa wx hV hdep hval hj hsm hr
          have e7 : aa.tmps.getD 7 undef = .pointer (some ⟨T, 0, none⟩) := hsm 7 (by decide)
          have hkb := KT.out.below hj KT.out.lt
          have cc0 : wx.cell? ⟨T, 0, none⟩ = some (.int .u8 t.k) := hkb.cell 0
          have cc1 : wx.cell? ⟨T, 1, none⟩ = some (.int .i64 t.co) := hkb.cell 1
          have cc2 : wx.cell? ⟨T, 2, none⟩ = some (.int .i64 t.pe) := hkb.cell 2
          have cc3 : wx.cell? ⟨T, 3, none⟩ = some (.int .i64 t.tg) := hkb.cell 3
          have cc4 : wx.cell? ⟨T, 4, none⟩ = some (.int .i64 t.va) := hkb.cell 4
          have cc5 : wx.cell? ⟨T, 5, none⟩ = some (.int .i64 t.sz) := hkb.cell 5
          have cc6 : wx.cell? ⟨T, 6, none⟩ = some (.int .i64 t.ro) := hkb.cell 6
          have cc7 : wx.cell? ⟨T, 7, none⟩ = some (.int .u8 t.op) := hkb.cell 7
          have cc8 : wx.cell? ⟨T, 8, none⟩ = some (.slice rt t.rq.length ct) := hkb.cell 8
          have cc9 : wx.cell? ⟨T, 9, none⟩ = some (.int .i64 t.cl) := hkb.cell 9
          have cc10 : wx.cell? ⟨T, 10, none⟩ = some (.int .i64 t.ky) := hkb.cell 10
          rw [Array.getD_eq_getD_getElem?] at e7
          unfold Oper.wp
          simp only [execOp, Act.eval, Array.getD_eq_getD_getElem?, e7]
          go_simp
          first | exact ⟨_, rfl, rfl, Below.refl _ _⟩ | exact ⟨_, rfl, rfl, Below.refl _ _, hj⟩ | exact ⟨_, rfl, Below.refl _ _, hj⟩ | exact ⟨_, rfl, hj⟩
        | 3, ho =>
          cases ho
          intro V aa wx hV hdep hval hj hsm hr
          have r33 := hr 33 (by decide) (by apply Array.mem_toList_iff.1; repeat (first | exact List.Mem.head _ | apply List.Mem.tail))
          have e34 : aa.tmps.getD 34 undef = .agg #[.int .u8 t.k, .int .i64 t.co, .int .i64 t.pe, .int .i64 t.tg, .int .i64 t.va, .int .i64 t.sz, .int .i64 t.ro, .int .u8 t.op, .slice rt t.rq.length ct, .int .i64 t.cl, .int .i64 t.ky] := hr 34 (by decide) (by apply Array.mem_toList_iff.1; repeat (first | exact List.Mem.head _ | apply List.Mem.tail))
          obtain ⟨rb, rd, e33, hn33⟩ := r33
          have e33 : aa.tmps.getD 33 undef = .agg (t.A rb rd) := e33
          rw [Array.getD_eq_getD_getElem?] at e34
          rw [Array.getD_eq_getD_getElem?] at e33
          unfold Oper.wp
          simp only [execOp, Act.eval, Array.getD_eq_getD_getElem?, e34, e33]
          go_simp
          refine (Same_b t t rb rt rd ct wx hn33 (NT.out.below hj) (by have := HTL.out; omega) (by have := HTL.out; omega)).mono ?_
          rintro e w' ⟨rfl, hb⟩
          exact ⟨_, rfl, by show Value.bool (decide (t = t)) = .bool true; rw [decide_eq_true rfl], hb, hj.trans (hb.mono hj.size)⟩
        | 4, ho =>
          cases ho
          intro V aa wx hV hdep hval hj hsm hr
          have e35 : aa.tmps.getD 35 undef = .bool true := hr 35 (by decide) (by apply Array.mem_toList_iff.1; repeat (first | exact List.Mem.head _ | apply List.Mem.tail))
          rw [Array.getD_eq_getD_getElem?] at e35
          unfold Oper.wp
          simp only [execOp, Act.eval, Array.getD_eq_getD_getElem?, e35]
          go_simp
          first | exact ⟨_, rfl, rfl, Below.refl _ _⟩ | exact ⟨_, rfl, rfl, Below.refl _ _, hj⟩ | exact ⟨_, rfl, Below.refl _ _, hj⟩ | exact ⟨_, rfl, hj⟩
        | 5, ho =>
          cases ho
          intro V aa wx hV hdep hval hj hsm hr
          have e36 : aa.tmps.getD 36 undef = .bool false := hr 36 (by decide) (by apply Array.mem_toList_iff.1; repeat (first | exact List.Mem.head _ | apply List.Mem.tail))
          rw [Array.getD_eq_getD_getElem?] at e36
          unfold Oper.wp
          simp only [execOp, Act.eval, Array.getD_eq_getD_getElem?, e36]
          go_simp
          first | exact ⟨_, rfl, rfl, Below.refl _ _⟩ | exact ⟨_, rfl, rfl, Below.refl _ _, hj⟩ | exact ⟨_, rfl, Below.refl _ _, hj⟩ | exact ⟨_, rfl, hj⟩
        | 6, ho =>
          cases ho
          intro V aa wx hV hdep hval hj hsm hr
          have e3 : aa.tmps.getD 3 undef = .pointer (some ⟨X, 0, none⟩) := hsm 3 (by decide)
          have hkb := KC.out.below hj KC.out.lt
          have cc0 : wx.cell? ⟨X, 0, none⟩ = some (.int .u8 c.k) := hkb.cell 0
          have cc1 : wx.cell? ⟨X, 1, none⟩ = some (.int .i64 c.co) := hkb.cell 1
          have cc2 : wx.cell? ⟨X, 2, none⟩ = some (.int .i64 c.pe) := hkb.cell 2
          have cc3 : wx.cell? ⟨X, 3, none⟩ = some (.int .i64 c.tg) := hkb.cell 3
          have cc4 : wx.cell? ⟨X, 4, none⟩ = some (.int .i64 c.va) := hkb.cell 4
          have cc5 : wx.cell? ⟨X, 5, none⟩ = some (.int .i64 c.sz) := hkb.cell 5
          have cc6 : wx.cell? ⟨X, 6, none⟩ = some (.int .i64 c.ro) := hkb.cell 6
          have cc7 : wx.cell? ⟨X, 7, none⟩ = some (.int .u8 c.op) := hkb.cell 7
          have cc8 : wx.cell? ⟨X, 8, none⟩ = some (.slice ra c.rq.length rc) := hkb.cell 8
          have cc9 : wx.cell? ⟨X, 9, none⟩ = some (.int .i64 c.cl) := hkb.cell 9
          have cc10 : wx.cell? ⟨X, 10, none⟩ = some (.int .i64 c.ky) := hkb.cell 10
          rw [Array.getD_eq_getD_getElem?] at e3
          unfold Oper.wp
          simp only [execOp, Act.eval, Array.getD_eq_getD_getElem?, e3]
          go_simp
          first | exact ⟨_, rfl, rfl, Below.refl _ _⟩ | exact ⟨_, rfl, rfl, Below.refl _ _, hj⟩ | exact ⟨_, rfl, Below.refl _ _, hj⟩ | exact ⟨_, rfl, hj⟩
        | 7, ho =>
          cases ho
          intro V aa wx hV hdep hval hj hsm hr
          have e5 : aa.tmps.getD 5 undef = .pointer (some ⟨Y, 0, none⟩) := hsm 5 (by decide)
          have hkb := KG.out.below hj KG.out.lt
          have cc0 : wx.cell? ⟨Y, 0, none⟩ = some (.string key) := hkb.cell 0
          have cc1 : wx.cell? ⟨Y, 1, none⟩ = some (.slice A l.length gc) := hkb.cell 1
          rw [Array.getD_eq_getD_getElem?] at e5
          unfold Oper.wp
          simp only [execOp, Act.eval, Array.getD_eq_getD_getElem?, e5]
          go_simp
          first | exact ⟨_, rfl, rfl, Below.refl _ _⟩ | exact ⟨_, rfl, rfl, Below.refl _ _, hj⟩ | exact ⟨_, rfl, Below.refl _ _, hj⟩ | exact ⟨_, rfl, hj⟩
        | 8, ho =>
          cases ho
          intro V aa wx hV hdep hval hj hsm hr
          have e38 : aa.tmps.getD 38 undef = .agg #[.int .u8 c.k, .int .i64 c.co, .int .i64 c.pe, .int .i64 c.tg, .int .i64 c.va, .int .i64 c.sz, .int .i64 c.ro, .int .u8 c.op, .slice ra c.rq.length rc, .int .i64 c.cl, .int .i64 c.ky] := hr 38 (by decide) (by apply Array.mem_toList_iff.1; repeat (first | exact List.Mem.head _ | apply List.Mem.tail))
          have e39 : aa.tmps.getD 39 undef = .agg #[.string key, .slice A l.length gc] := hr 39 (by decide) (by apply Array.mem_toList_iff.1; repeat (first | exact List.Mem.head _ | apply List.Mem.tail))
          rw [Array.getD_eq_getD_getElem?] at e38
          rw [Array.getD_eq_getD_getElem?] at e39
          unfold Oper.wp
          simp only [execOp, Act.eval, Array.getD_eq_getD_getElem?, e38, e39]
          go_simp
          refine (May_p c ra rc key A gc l wx (HRA.out wx (HB5.out.1.trans (hj.mono HB5.out.2))) HRC.out (by have := HG1.out; omega) (HRG.out wx (HB5.out.1.trans (hj.mono HB5.out.2))) (by have := HG3.out; omega)).mono ?_
          rintro e w' ⟨rfl, hb⟩
          exact ⟨_, rfl, by show Value.bool (decide (mayC c l)) = .bool bm; rw [HBM.out], hb, hj.trans (hb.mono hj.size)⟩
        | 9, ho =>
          cases ho
          intro V aa wx hV hdep hval hj hsm hr
          have e7 : aa.tmps.getD 7 undef = .pointer (some ⟨T, 0, none⟩) := hsm 7 (by decide)
          have hkb := KT.out.below hj KT.out.lt
          have cc0 : wx.cell? ⟨T, 0, none⟩ = some (.int .u8 t.k) := hkb.cell 0
          have cc1 : wx.cell? ⟨T, 1, none⟩ = some (.int .i64 t.co) := hkb.cell 1
          have cc2 : wx.cell? ⟨T, 2, none⟩ = some (.int .i64 t.pe) := hkb.cell 2
          have cc3 : wx.cell? ⟨T, 3, none⟩ = some (.int .i64 t.tg) := hkb.cell 3
          have cc4 : wx.cell? ⟨T, 4, none⟩ = some (.int .i64 t.va) := hkb.cell 4
          have cc5 : wx.cell? ⟨T, 5, none⟩ = some (.int .i64 t.sz) := hkb.cell 5
          have cc6 : wx.cell? ⟨T, 6, none⟩ = some (.int .i64 t.ro) := hkb.cell 6
          have cc7 : wx.cell? ⟨T, 7, none⟩ = some (.int .u8 t.op) := hkb.cell 7
          have cc8 : wx.cell? ⟨T, 8, none⟩ = some (.slice rt t.rq.length ct) := hkb.cell 8
          have cc9 : wx.cell? ⟨T, 9, none⟩ = some (.int .i64 t.cl) := hkb.cell 9
          have cc10 : wx.cell? ⟨T, 10, none⟩ = some (.int .i64 t.ky) := hkb.cell 10
          rw [Array.getD_eq_getD_getElem?] at e7
          unfold Oper.wp
          simp only [execOp, Act.eval, Array.getD_eq_getD_getElem?, e7]
          go_simp
          first | exact ⟨_, rfl, rfl, Below.refl _ _⟩ | exact ⟨_, rfl, rfl, Below.refl _ _, hj⟩ | exact ⟨_, rfl, Below.refl _ _, hj⟩ | exact ⟨_, rfl, hj⟩
        | 10, ho =>
          cases ho
          intro V aa wx hV hdep hval hj hsm hr
          have e5 : aa.tmps.getD 5 undef = .pointer (some ⟨Y, 0, none⟩) := hsm 5 (by decide)
          have hkb := KG.out.below hj KG.out.lt
          have cc0 : wx.cell? ⟨Y, 0, none⟩ = some (.string key) := hkb.cell 0
          have cc1 : wx.cell? ⟨Y, 1, none⟩ = some (.slice A l.length gc) := hkb.cell 1
          rw [Array.getD_eq_getD_getElem?] at e5
          unfold Oper.wp
          simp only [execOp, Act.eval, Array.getD_eq_getD_getElem?, e5]
          go_simp
          first | exact ⟨_, rfl, rfl, Below.refl _ _⟩ | exact ⟨_, rfl, rfl, Below.refl _ _, hj⟩ | exact ⟨_, rfl, Below.refl _ _, hj⟩ | exact ⟨_, rfl, hj⟩
        | 11, ho =>
          cases ho
          intro V aa wx hV hdep hval hj hsm hr
          have e41 : aa.tmps.getD 41 undef = .agg #[.int .u8 t.k, .int .i64 t.co, .int .i64 t.pe, .int .i64 t.tg, .int .i64 t.va, .int .i64 t.sz, .int .i64 t.ro, .int .u8 t.op, .slice rt t.rq.length ct, .int .i64 t.cl, .int .i64 t.ky] := hr 41 (by decide) (by apply Array.mem_toList_iff.1; repeat (first | exact List.Mem.head _ | apply List.Mem.tail))
          have e42 : aa.tmps.getD 42 undef = .agg #[.string key, .slice A l.length gc] := hr 42 (by decide) (by apply Array.mem_toList_iff.1; repeat (first | exact List.Mem.head _ | apply List.Mem.tail))
          rw [Array.getD_eq_getD_getElem?] at e41
          rw [Array.getD_eq_getD_getElem?] at e42
          unfold Oper.wp
          simp only [execOp, Act.eval, Array.getD_eq_getD_getElem?, e41, e42]
          go_simp
          refine (May_p t rt ct key A gc l wx (NT.out.below hj) HCT.out (by have := HTL.out; omega) (HRG.out wx (HB5.out.1.trans (hj.mono HB5.out.2))) (by have := HG3.out; omega)).mono ?_
          rintro e w' ⟨rfl, hb⟩
          exact ⟨_, rfl, by show Value.bool (decide (mayC t l)) = .bool bm; rw [HBN.out], hb, hj.trans (hb.mono hj.size)⟩
        | 12, ho =>
          cases ho
          intro V aa wx hV hdep hval hj hsm hr
          have e40 : aa.tmps.getD 40 undef = .bool bm := hr 40 (by decide) (by apply Array.mem_toList_iff.1; repeat (first | exact List.Mem.head _ | apply List.Mem.tail))
          have e43 : aa.tmps.getD 43 undef = .bool bm := hr 43 (by decide) (by apply Array.mem_toList_iff.1; repeat (first | exact List.Mem.head _ | apply List.Mem.tail))
          rw [Array.getD_eq_getD_getElem?] at e40
          rw [Array.getD_eq_getD_getElem?] at e43
          unfold Oper.wp
          simp only [execOp, Act.eval, Array.getD_eq_getD_getElem?, e40, e43]
          go_simp
          first | exact ⟨_, rfl, rfl, Below.refl _ _⟩ | exact ⟨_, rfl, rfl, Below.refl _ _, hj⟩ | (cases bm <;> first | exact ⟨_, rfl, rfl, Below.refl _ _⟩ | exact ⟨_, rfl, rfl, Below.refl _ _, hj⟩)
        | 13, ho =>
          cases ho
          intro V aa wx hV hdep hval hj hsm hr
          have e37 : aa.tmps.getD 37 undef = .bool false := hr 37 (by decide) (by apply Array.mem_toList_iff.1; repeat (first | exact List.Mem.head _ | apply List.Mem.tail))
          have e44 : aa.tmps.getD 44 undef = .bool false := hr 44 (by decide) (by apply Array.mem_toList_iff.1; repeat (first | exact List.Mem.head _ | apply List.Mem.tail))
          rw [Array.getD_eq_getD_getElem?] at e37
          rw [Array.getD_eq_getD_getElem?] at e44
          unfold Oper.wp
          simp only [execOp, Act.eval, Array.getD_eq_getD_getElem?, e37, e44]
          go_simp
          first | exact ⟨_, rfl, rfl, Below.refl _ _⟩ | exact ⟨_, rfl, rfl, Below.refl _ _, hj⟩ | exact ⟨_, rfl, Below.refl _ _, hj⟩ | exact ⟨_, rfl, hj⟩
        | 14, ho =>
          cases ho
          intro V aa wx hV hdep hval hj hsm hr
          have e45 : aa.tmps.getD 45 undef = .bool false := hr 45 (by decide) (by apply Array.mem_toList_iff.1; repeat (first | exact List.Mem.head _ | apply List.Mem.tail))
          rw [Array.getD_eq_getD_getElem?] at e45
          unfold Oper.wp
          simp only [execOp, Act.eval, Array.getD_eq_getD_getElem?, e45]
          go_simp
          first | exact ⟨_, rfl, rfl, Below.refl _ _⟩ | exact ⟨_, rfl, rfl, Below.refl _ _, hj⟩ | exact ⟨_, rfl, Below.refl _ _, hj⟩ | exact ⟨_, rfl, hj⟩
        | 15, ho =>
          cases ho
          intro V aa wx hV hdep hval hj hsm hr
          have e3 : aa.tmps.getD 3 undef = .pointer (some ⟨X, 0, none⟩) := hsm 3 (by decide)
          have hkb := KC.out.below hj KC.out.lt
          have cc0 : wx.cell? ⟨X, 0, none⟩ = some (.int .u8 c.k) := hkb.cell 0
          have cc1 : wx.cell? ⟨X, 1, none⟩ = some (.int .i64 c.co) := hkb.cell 1
          have cc2 : wx.cell? ⟨X, 2, none⟩ = some (.int .i64 c.pe) := hkb.cell 2
          have cc3 : wx.cell? ⟨X, 3, none⟩ = some (.int .i64 c.tg) := hkb.cell 3
          have cc4 : wx.cell? ⟨X, 4, none⟩ = some (.int .i64 c.va) := hkb.cell 4
          have cc5 : wx.cell? ⟨X, 5, none⟩ = some (.int .i64 c.sz) := hkb.cell 5
          have cc6 : wx.cell? ⟨X, 6, none⟩ = some (.int .i64 c.ro) := hkb.cell 6
          have cc7 : wx.cell? ⟨X, 7, none⟩ = some (.int .u8 c.op) := hkb.cell 7
          have cc8 : wx.cell? ⟨X, 8, none⟩ = some (.slice ra c.rq.length rc) := hkb.cell 8
          have cc9 : wx.cell? ⟨X, 9, none⟩ = some (.int .i64 c.cl) := hkb.cell 9
          have cc10 : wx.cell? ⟨X, 10, none⟩ = some (.int .i64 c.ky) := hkb.cell 10
          rw [Array.getD_eq_getD_getElem?] at e3
          unfold Oper.wp
          simp only [execOp, Act.eval, Array.getD_eq_getD_getElem?, e3]
          go_simp
          first | exact ⟨_, rfl, rfl, Below.refl _ _⟩ | exact ⟨_, rfl, rfl, Below.refl _ _, hj⟩ | exact ⟨_, rfl, Below.refl _ _, hj⟩ | exact ⟨_, rfl, hj⟩
        | 16, ho =>
          cases ho
          intro V aa wx hV hdep hval hj hsm hr
          have e47 : aa.tmps.getD 47 undef = .agg #[.int .u8 c.k, .int .i64 c.co, .int .i64 c.pe, .int .i64 c.tg, .int .i64 c.va, .int .i64 c.sz, .int .i64 c.ro, .int .u8 c.op, .slice ra c.rq.length rc, .int .i64 c.cl, .int .i64 c.ky] := hr 47 (by decide) (by apply Array.mem_toList_iff.1; repeat (first | exact List.Mem.head _ | apply List.Mem.tail))
          rw [Array.getD_eq_getD_getElem?] at e47
          unfold Oper.wp
          simp only [execOp, Act.eval, Array.getD_eq_getD_getElem?, e47]
          go_simp
          refine (Decides_a c ra rc wx).mono ?_
          rintro e w' ⟨rfl, hb⟩
          exact ⟨_, rfl, by show Value.bool (decC c) = .bool false; rw [HBD.out], hb, hj.trans (hb.mono hj.size)⟩
        | 17, ho =>
          cases ho
          intro V aa wx hV hdep hval hj hsm hr
          have e48 : aa.tmps.getD 48 undef = .bool false := hr 48 (by decide) (by apply Array.mem_toList_iff.1; repeat (first | exact List.Mem.head _ | apply List.Mem.tail))
          rw [Array.getD_eq_getD_getElem?] at e48
          unfold Oper.wp
          simp only [execOp, Act.eval, Array.getD_eq_getD_getElem?, e48]
          go_simp
          first | exact ⟨_, rfl, rfl, Below.refl _ _⟩ | exact ⟨_, rfl, rfl, Below.refl _ _, hj⟩ | exact ⟨_, rfl, Below.refl _ _, hj⟩ | exact ⟨_, rfl, hj⟩
        | 18, ho => exact absurd hG (by show ¬ (false = true); decide)
        | 19, ho => exact absurd hG (by show ¬ (false = true); decide)
        | 20, ho => exact absurd hG (by show ¬ (false = true); decide)
        | 21, ho =>
          cases ho
          intro V aa wx hV hdep hval hj hsm hr
          have e49 : aa.tmps.getD 49 undef = .bool false := hr 49 (by decide) (by apply Array.mem_toList_iff.1; repeat (first | exact List.Mem.head _ | apply List.Mem.tail))
          rw [Array.getD_eq_getD_getElem?] at e49
          unfold Oper.wp
          simp only [execOp, Act.eval, Array.getD_eq_getD_getElem?, e49]
          go_simp
          first | exact ⟨_, rfl, rfl, Below.refl _ _⟩ | exact ⟨_, rfl, rfl, Below.refl _ _, hj⟩ | exact ⟨_, rfl, Below.refl _ _, hj⟩ | exact ⟨_, rfl, hj⟩
        | 22, ho =>
          cases ho
          intro V aa wx hV hdep hval hj hsm hr
          have e46 : aa.tmps.getD 46 undef = .bool false := hr 46 (by decide) (by apply Array.mem_toList_iff.1; repeat (first | exact List.Mem.head _ | apply List.Mem.tail))
          have e53 : aa.tmps.getD 53 undef = .bool false := hr 53 (by decide) (by apply Array.mem_toList_iff.1; repeat (first | exact List.Mem.head _ | apply List.Mem.tail))
          rw [Array.getD_eq_getD_getElem?] at e46
          rw [Array.getD_eq_getD_getElem?] at e53
          unfold Oper.wp
          simp only [execOp, Act.eval, Array.getD_eq_getD_getElem?, e46, e53]
          go_simp
          first | exact ⟨_, rfl, rfl, Below.refl _ _⟩ | exact ⟨_, rfl, rfl, Below.refl _ _, hj⟩ | exact ⟨_, rfl, Below.refl _ _, hj⟩ | exact ⟨_, rfl, hj⟩
        | _ + 23, ho => cases ho
      case fin =>
        intro ff V w6 hV hj hr
        have e54 : ff 54 = .bool false := hr 54 (by decide)
        have HJ6 := hide hj
        clear hV hr hj
        simp only [putAll, slotsOf, List.filterMap_cons, List.filterMap_nil, List.foldl_cons, List.foldl_nil, Act.put, e54]
        simp only [List.setIfInBounds_toArray, List.set_cons_succ, List.set_cons_zero]
        go_wp2_with fail
        refine Met.intro ?_
        go_step
        (repeat apply Exists.intro)
        refine And.intro ?relm1 ?frm1
        case frm1 => with_reducible rfl
        exact ⟨rfl, HJ6.out⟩
    | true =>
      let R : Nat → Value → World → Prop := fun sl u w1 => match sl with
        | 32 => u = .agg #[.int .u8 t.k, .int .i64 t.co, .int .i64 t.pe, .int .i64 t.tg, .int .i64 t.va, .int .i64 t.sz, .int .i64 t.ro, .int .u8 t.op, .slice rt t.rq.length ct, .int .i64 t.cl, .int .i64 t.ky]
        | 33 => ∃ rb rd, u = .agg (t.A rb rd) ∧ NRow w1 rb t.rq
        | 34 => u = .agg #[.int .u8 t.k, .int .i64 t.co, .int .i64 t.pe, .int .i64 t.tg, .int .i64 t.va, .int .i64 t.sz, .int .i64 t.ro, .int .u8 t.op, .slice rt t.rq.length ct, .int .i64 t.cl, .int .i64 t.ky]
        | 35 => u = .bool true
        | 36 => u = .bool false
        | 37 => u = .bool false
        | 38 => u = .agg #[.int .u8 c.k, .int .i64 c.co, .int .i64 c.pe, .int .i64 c.tg, .int .i64 c.va, .int .i64 c.sz, .int .i64 c.ro, .int .u8 c.op, .slice ra c.rq.length rc, .int .i64 c.cl, .int .i64 c.ky]
        | 39 => u = .agg #[.string key, .slice A l.length gc]
        | 40 => u = .bool bm
        | 41 => u = .agg #[.int .u8 t.k, .int .i64 t.co, .int .i64 t.pe, .int .i64 t.tg, .int .i64 t.va, .int .i64 t.sz, .int .i64 t.ro, .int .u8 t.op, .slice rt t.rq.length ct, .int .i64 t.cl, .int .i64 t.ky]
        | 42 => u = .agg #[.string key, .slice A l.length gc]
        | 43 => u = .bool bm
        | 44 => u = .bool false
        | 45 => u = .bool false
        | 46 => u = .bool false
        | 47 => u = .agg #[.int .u8 c.k, .int .i64 c.co, .int .i64 c.pe, .int .i64 c.tg, .int .i64 c.va, .int .i64 c.sz, .int .i64 c.ro, .int .u8 c.op, .slice ra c.rq.length rc, .int .i64 c.cl, .int .i64 c.ky]
        | 48 => u = .bool true
        | 49 => u = .bool true
        | 50 => u = .agg #[.int .u8 t.k, .int .i64 t.co, .int .i64 t.pe, .int .i64 t.tg, .int .i64 t.va, .int .i64 t.sz, .int .i64 t.ro, .int .u8 t.op, .slice rt t.rq.length ct, .int .i64 t.cl, .int .i64 t.ky]
        | 51 => u = .bool true
        | 52 => u = .bool false
        | 53 => u = .bool false
        | 54 => u = .bool false
        | _ => True
      refine wp_region_relGW [(37, false), (46, false), (49, true)] R (fun a b => Below a.heap.size a b) (fun _ w => Below w5.heap.size w5 w) (by kernel_rfl) (by kernel_rfl) (by kernel_rfl) (by kernel_rfl) ?mono (fun w => Below.refl _ _) ((Below.refl _ _).drew) ?gs ?step ?fin
      case mono =>
        intro sl u wx wy h hk
        match sl with
        | 33 =>
          obtain ⟨rb, rd, h1, h2⟩ := h
          exact ⟨rb, rd, h1, h2.below hk⟩
        | 0 | 1 | 2 | 3 | 4 | 5 | 6 | 7 | 8 | 9 | 10 | 11 | 12 | 13 | 14 | 15 | 16 | 17 | 18 | 19 | 20 | 21 | 22 | 23 | 24 | 25 | 26 | 27 | 28 | 29 | 30 | 31 | 32 | 34 | 35 | 36 | 37 | 38 | 39 | 40 | 41 | 42 | 43 | 44 | 45 | 46 | 47 | 48 | 49 | 50 | 51 | 52 | 53 | 54 | _ + 55 => exact h
      case gs =>
        intro p hp u w1 h
        simp only [List.mem_cons, List.not_mem_nil, or_false] at hp
        rcases hp with rfl | rfl | rfl <;> exact h
      case step =>
        intro j o ho
        match j, ho with
        | 0, ho =>
          cases ho
          intro V aa wx hV hdep hval hj hsm hr
          have e7 : aa.tmps.getD 7 undef = .pointer (some ⟨T, 0, none⟩) := hsm 7 (by decide)
          have hkb := KT.out.below hj KT.out.lt
          have cc0 : wx.cell? ⟨T, 0, none⟩ = some (.int .u8 t.k) := hkb.cell 0
          have cc1 : wx.cell? ⟨T, 1, none⟩ = some (.int .i64 t.co) := hkb.cell 1
          have cc2 : wx.cell? ⟨T, 2, none⟩ = some (.int .i64 t.pe) := hkb.cell 2
          have cc3 : wx.cell? ⟨T, 3, none⟩ = some (.int .i64 t.tg) := hkb.cell 3
          have cc4 : wx.cell? ⟨T, 4, none⟩ = some (.int .i64 t.va) := hkb.cell 4
          have cc5 : wx.cell? ⟨T, 5, none⟩ = some (.int .i64 t.sz) := hkb.cell 5
          have cc6 : wx.cell? ⟨T, 6, none⟩ = some (.int .i64 t.ro) := hkb.cell 6
          have cc7 : wx.cell? ⟨T, 7, none⟩ = some (.int .u8 t.op) := hkb.cell 7
          have cc8 : wx.cell? ⟨T, 8, none⟩ = some (.slice rt t.rq.length ct) := hkb.cell 8
          have cc9 : wx.cell? ⟨T, 9, none⟩ = some (.int .i64 t.cl) := hkb.cell 9
          have cc10 : wx.cell? ⟨T, 10, none⟩ = some (.int .i64 t.ky) := hkb.cell 10
          rw [Array.getD_eq_getD_getElem?] at e7
          unfold Oper.wp
          simp only [execOp, Act.eval, Array.getD_eq_getD_getElem?, e7]
          go_simp
          first | exact ⟨_, rfl, rfl, Below.refl _ _⟩ | exact ⟨_, rfl, rfl, Below.refl _ _, hj⟩ | exact ⟨_, rfl, Below.refl _ _, hj⟩ | exact ⟨_, rfl, hj⟩
        | 1, ho =>
          cases ho
          intro V aa wx hV hdep hval hj hsm hr
          have e32 : aa.tmps.getD 32 undef = .agg #[.int .u8 t.k, .int .i64 t.co, .int .i64 t.pe, .int .i64 t.tg, .int .i64 t.va, .int .i64 t.sz, .int .i64 t.ro, .int .u8 t.op, .slice rt t.rq.length ct, .int .i64 t.cl, .int .i64 t.ky] := hr 32 (by decide) (by apply Array.mem_toList_iff.1; repeat (first | exact List.Mem.head _ | apply List.Mem.tail))
          rw [Array.getD_eq_getD_getElem?] at e32
          unfold Oper.wp
          simp only [execOp, Act.eval, Array.getD_eq_getD_getElem?, e32]
          go_simp
          refine (TRT.out wx (NT.out.below hj)).mono ?_
          rintro e w' ⟨rb, rd, rfl, hown, hb⟩
          exact ⟨_, rfl, ⟨rb, rd, rfl, own_row hown rfl⟩, hb, hj.trans (hb.mono hj.size)⟩
        | 2, ho =>
          cases ho
          intro V aa wx hV hdep hval hj hsm hr
          have e7 : aa.tmps.getD 7 undef = .pointer (some ⟨T, 0, none⟩) := hsm 7 (by decide)
          have hkb := KT.out.below hj KT.out.lt
          have cc0 : wx.cell? ⟨T, 0, none⟩ = some (.int .u8 t.k) := hkb.cell 0
          have cc1 : wx.cell? ⟨T, 1, none⟩ = some (.int .i64 t.co) := hkb.cell 1
          have cc2 : wx.cell? ⟨T, 2, none⟩ = some (.int .i64 t.pe) := hkb.cell 2
          have cc3 : wx.cell? ⟨T, 3, none⟩ = some (.int .i64 t.tg) := hkb.cell 3
          have cc4 : wx.cell? ⟨T, 4, none⟩ = some (.int .i64 t.va) := hkb.cell 4
          have cc5 : wx.cell? ⟨T, 5, none⟩ = some (.int .i64 t.sz) := hkb.cell 5
          have cc6 : wx.cell? ⟨T, 6, none⟩ = some (.int .i64 t.ro) := hkb.cell 6
          have cc7 : wx.cell? ⟨T, 7, none⟩ = some (.int .u8 t.op) := hkb.cell 7
          have cc8 : wx.cell? ⟨T, 8, none⟩ = some (.slice rt t.rq.length ct) := hkb.cell 8
          have cc9 : wx.cell? ⟨T, 9, none⟩ = some (.int .i64 t.cl) := hkb.cell 9
          have cc10 : wx.cell? ⟨T, 10, none⟩ = some (.int .i64 t.ky) := hkb.cell 10
          rw [Array.getD_eq_getD_getElem?] at e7
          unfold Oper.wp
          simp only [execOp, Act.eval, Array.getD_eq_getD_getElem?, e7]
          go_simp
          first | exact ⟨_, rfl, rfl, Below.refl _ _⟩ | exact ⟨_, rfl, rfl, Below.refl _ _, hj⟩ | exact ⟨_, rfl, Below.refl _ _, hj⟩ | exact ⟨_, rfl, hj⟩
        | 3, ho =>
          cases ho
          intro V aa wx hV hdep hval hj hsm hr
          have r33 := hr 33 (by decide) (by apply Array.mem_toList_iff.1; repeat (first | exact List.Mem.head _ | apply List.Mem.tail))
          have e34 : aa.tmps.getD 34 undef = .agg #[.int .u8 t.k, .int .i64 t.co, .int .i64 t.pe, .int .i64 t.tg, .int .i64 t.va, .int .i64 t.sz, .int .i64 t.ro, .int .u8 t.op, .slice rt t.rq.length ct, .int .i64 t.cl, .int .i64 t.ky] := hr 34 (by decide) (by apply Array.mem_toList_iff.1; repeat (first | exact List.Mem.head _ | apply List.Mem.tail))
          obtain ⟨rb, rd, e33, hn33⟩ := r33
          have e33 : aa.tmps.getD 33 undef = .agg (t.A rb rd) := e33
          rw [Array.getD_eq_getD_getElem?] at e34
          rw [Array.getD_eq_getD_getElem?] at e33
          unfold Oper.wp
          simp only [execOp, Act.eval, Array.getD_eq_getD_getElem?, e34, e33]
          go_simp
          refine (Same_b t t rb rt rd ct wx hn33 (NT.out.below hj) (by have := HTL.out; omega) (by have := HTL.out; omega)).mono ?_
          rintro e w' ⟨rfl, hb⟩
          exact ⟨_, rfl, by show Value.bool (decide (t = t)) = .bool true; rw [decide_eq_true rfl], hb, hj.trans (hb.mono hj.size)⟩
        | 4, ho =>
          cases ho
          intro V aa wx hV hdep hval hj hsm hr
          have e35 : aa.tmps.getD 35 undef = .bool true := hr 35 (by decide) (by apply Array.mem_toList_iff.1; repeat (first | exact List.Mem.head _ | apply List.Mem.tail))
          rw [Array.getD_eq_getD_getElem?] at e35
          unfold Oper.wp
          simp only [execOp, Act.eval, Array.getD_eq_getD_getElem?, e35]
          go_simp
          first | exact ⟨_, rfl, rfl, Below.refl _ _⟩ | exact ⟨_, rfl, rfl, Below.refl _ _, hj⟩ | exact ⟨_, rfl, Below.refl _ _, hj⟩ | exact ⟨_, rfl, hj⟩
        | 5, ho =>
          cases ho
          intro V aa wx hV hdep hval hj hsm hr
          have e36 : aa.tmps.getD 36 undef = .bool false := hr 36 (by decide) (by apply Array.mem_toList_iff.1; repeat (first | exact List.Mem.head _ | apply List.Mem.tail))
          rw [Array.getD_eq_getD_getElem?] at e36
          unfold Oper.wp
          simp only [execOp, Act.eval, Array.getD_eq_getD_getElem?, e36]
          go_simp
          first | exact ⟨_, rfl, rfl, Below.refl _ _⟩ | exact ⟨_, rfl, rfl, Below.refl _ _, hj⟩ | exact ⟨_, rfl, Below.refl _ _, hj⟩ | exact ⟨_, rfl, hj⟩
        | 6, ho =>
          cases ho
          intro V aa wx hV hdep hval hj hsm hr
          have e3 : aa.tmps.getD 3 undef = .pointer (some ⟨X, 0, none⟩) := hsm 3 (by decide)
          have hkb := KC.out.below hj KC.out.lt
          have cc0 : wx.cell? ⟨X, 0, none⟩ = some (.int .u8 c.k) := hkb.cell 0
          have cc1 : wx.cell? ⟨X, 1, none⟩ = some (.int .i64 c.co) := hkb.cell 1
          have cc2 : wx.cell? ⟨X, 2, none⟩ = some (.int .i64 c.pe) := hkb.cell 2
          have cc3 : wx.cell? ⟨X, 3, none⟩ = some (.int .i64 c.tg) := hkb.cell 3
          have cc4 : wx.cell? ⟨X, 4, none⟩ = some (.int .i64 c.va) := hkb.cell 4
          have cc5 : wx.cell? ⟨X, 5, none⟩ = some (.int .i64 c.sz) := hkb.cell 5
          have cc6 : wx.cell? ⟨X, 6, none⟩ = some (.int .i64 c.ro) := hkb.cell 6
          have cc7 : wx.cell? ⟨X, 7, none⟩ = some (.int .u8 c.op) := hkb.cell 7
          have cc8 : wx.cell? ⟨X, 8, none⟩ = some (.slice ra c.rq.length rc) := hkb.cell 8
          have cc9 : wx.cell? ⟨X, 9, none⟩ = some (.int .i64 c.cl) := hkb.cell 9
          have cc10 : wx.cell? ⟨X, 10, none⟩ = some (.int .i64 c.ky) := hkb.cell 10
          rw [Array.getD_eq_getD_getElem?] at e3
          unfold Oper.wp
          simp only [execOp, Act.eval, Array.getD_eq_getD_getElem?, e3]
          go_simp
          first | exact ⟨_, rfl, rfl, Below.refl _ _⟩ | exact ⟨_, rfl, rfl, Below.refl _ _, hj⟩ | exact ⟨_, rfl, Below.refl _ _, hj⟩ | exact ⟨_, rfl, hj⟩
        | 7, ho =>
          cases ho
          intro V aa wx hV hdep hval hj hsm hr
          have e5 : aa.tmps.getD 5 undef = .pointer (some ⟨Y, 0, none⟩) := hsm 5 (by decide)
          have hkb := KG.out.below hj KG.out.lt
          have cc0 : wx.cell? ⟨Y, 0, none⟩ = some (.string key) := hkb.cell 0
          have cc1 : wx.cell? ⟨Y, 1, none⟩ = some (.slice A l.length gc) := hkb.cell 1
          rw [Array.getD_eq_getD_getElem?] at e5
          unfold Oper.wp
          simp only [execOp, Act.eval, Array.getD_eq_getD_getElem?, e5]
          go_simp
          first | exact ⟨_, rfl, rfl, Below.refl _ _⟩ | exact ⟨_, rfl, rfl, Below.refl _ _, hj⟩ | exact ⟨_, rfl, Below.refl _ _, hj⟩ | exact ⟨_, rfl, hj⟩
        | 8, ho =>
          cases ho
          intro V aa wx hV hdep hval hj hsm hr
          have e38 : aa.tmps.getD 38 undef = .agg #[.int .u8 c.k, .int .i64 c.co, .int .i64 c.pe, .int .i64 c.tg, .int .i64 c.va, .int .i64 c.sz, .int .i64 c.ro, .int .u8 c.op, .slice ra c.rq.length rc, .int .i64 c.cl, .int .i64 c.ky] := hr 38 (by decide) (by apply Array.mem_toList_iff.1; repeat (first | exact List.Mem.head _ | apply List.Mem.tail))
          have e39 : aa.tmps.getD 39 undef = .agg #[.string key, .slice A l.length gc] := hr 39 (by decide) (by apply Array.mem_toList_iff.1; repeat (first | exact List.Mem.head _ | apply List.Mem.tail))
          rw [Array.getD_eq_getD_getElem?] at e38
          rw [Array.getD_eq_getD_getElem?] at e39
          unfold Oper.wp
          simp only [execOp, Act.eval, Array.getD_eq_getD_getElem?, e38, e39]
          go_simp
          refine (May_p c ra rc key A gc l wx (HRA.out wx (HB5.out.1.trans (hj.mono HB5.out.2))) HRC.out (by have := HG1.out; omega) (HRG.out wx (HB5.out.1.trans (hj.mono HB5.out.2))) (by have := HG3.out; omega)).mono ?_
          rintro e w' ⟨rfl, hb⟩
          exact ⟨_, rfl, by show Value.bool (decide (mayC c l)) = .bool bm; rw [HBM.out], hb, hj.trans (hb.mono hj.size)⟩
        | 9, ho =>
          cases ho
          intro V aa wx hV hdep hval hj hsm hr
          have e7 : aa.tmps.getD 7 undef = .pointer (some ⟨T, 0, none⟩) := hsm 7 (by decide)
          have hkb := KT.out.below hj KT.out.lt
          have cc0 : wx.cell? ⟨T, 0, none⟩ = some (.int .u8 t.k) := hkb.cell 0
          have cc1 : wx.cell? ⟨T, 1, none⟩ = some (.int .i64 t.co) := hkb.cell 1
          have cc2 : wx.cell? ⟨T, 2, none⟩ = some (.int .i64 t.pe) := hkb.cell 2
          have cc3 : wx.cell? ⟨T, 3, none⟩ = some (.int .i64 t.tg) := hkb.cell 3
          have cc4 : wx.cell? ⟨T, 4, none⟩ = some (.int .i64 t.va) := hkb.cell 4
          have cc5 : wx.cell? ⟨T, 5, none⟩ = some (.int .i64 t.sz) := hkb.cell 5
          have cc6 : wx.cell? ⟨T, 6, none⟩ = some (.int .i64 t.ro) := hkb.cell 6
          have cc7 : wx.cell? ⟨T, 7, none⟩ = some (.int .u8 t.op) := hkb.cell 7
          have cc8 : wx.cell? ⟨T, 8, none⟩ = some (.slice rt t.rq.length ct) := hkb.cell 8
          have cc9 : wx.cell? ⟨T, 9, none⟩ = some (.int .i64 t.cl) := hkb.cell 9
          have cc10 : wx.cell? ⟨T, 10, none⟩ = some (.int .i64 t.ky) := hkb.cell 10
          rw [Array.getD_eq_getD_getElem?] at e7
          unfold Oper.wp
          simp only [execOp, Act.eval, Array.getD_eq_getD_getElem?, e7]
          go_simp
          first | exact ⟨_, rfl, rfl, Below.refl _ _⟩ | exact ⟨_, rfl, rfl, Below.refl _ _, hj⟩ | exact ⟨_, rfl, Below.refl _ _, hj⟩ | exact ⟨_, rfl, hj⟩
        | 10, ho =>
          cases ho
          intro V aa wx hV hdep hval hj hsm hr
          have e5 : aa.tmps.getD 5 undef = .pointer (some ⟨Y, 0, none⟩) := hsm 5 (by decide)
          have hkb := KG.out.below hj KG.out.lt
          have cc0 : wx.cell? ⟨Y, 0, none⟩ = some (.string key) := hkb.cell 0
          have cc1 : wx.cell? ⟨Y, 1, none⟩ = some (.slice A l.length gc) := hkb.cell 1
          rw [Array.getD_eq_getD_getElem?] at e5
          unfold Oper.wp
          simp only [execOp, Act.eval, Array.getD_eq_getD_getElem?, e5]
          go_simp
          first | exact ⟨_, rfl, rfl, Below.refl _ _⟩ | exact ⟨_, rfl, rfl, Below.refl _ _, hj⟩ | exact ⟨_, rfl, Below.refl _ _, hj⟩ | exact ⟨_, rfl, hj⟩
        | 11, ho =>
          cases ho
          intro V aa wx hV hdep hval hj hsm hr
          have e41 : aa.tmps.getD 41 undef = .agg #[.int .u8 t.k, .int .i64 t.co, .int .i64 t.pe, .int .i64 t.tg, .int .i64 t.va, .int .i64 t.sz, .int .i64 t.ro, .int .u8 t.op, .slice rt t.rq.length ct, .int .i64 t.cl, .int .i64 t.ky] := hr 41 (by decide) (by apply Array.mem_toList_iff.1; repeat (first | exact List.Mem.head _ | apply List.Mem.tail))
          have e42 : aa.tmps.getD 42 undef = .agg #[.string key, .slice A l.length gc] := hr 42 (by decide) (by apply Array.mem_toList_iff.1; repeat (first | exact List.Mem.head _ | apply List.Mem.tail))
          rw [Array.getD_eq_getD_getElem?] at e41
          rw [Array.getD_eq_getD_getElem?] at e42
          unfold Oper.wp
          simp only [execOp, Act.eval, Array.getD_eq_getD_getElem?, e41, e42]
          go_simp
          refine (May_p t rt ct key A gc l wx (NT.out.below hj) HCT.out (by have := HTL.out; omega) (HRG.out wx (HB5.out.1.trans (hj.mono HB5.out.2))) (by have := HG3.out; omega)).mono ?_
          rintro e w' ⟨rfl, hb⟩
          exact ⟨_, rfl, by show Value.bool (decide (mayC t l)) = .bool bm; rw [HBN.out], hb, hj.trans (hb.mono hj.size)⟩
        | 12, ho =>
          cases ho
          intro V aa wx hV hdep hval hj hsm hr
          have e40 : aa.tmps.getD 40 undef = .bool bm := hr 40 (by decide) (by apply Array.mem_toList_iff.1; repeat (first | exact List.Mem.head _ | apply List.Mem.tail))
          have e43 : aa.tmps.getD 43 undef = .bool bm := hr 43 (by decide) (by apply Array.mem_toList_iff.1; repeat (first | exact List.Mem.head _ | apply List.Mem.tail))
          rw [Array.getD_eq_getD_getElem?] at e40
          rw [Array.getD_eq_getD_getElem?] at e43
          unfold Oper.wp
          simp only [execOp, Act.eval, Array.getD_eq_getD_getElem?, e40, e43]
          go_simp
          first | exact ⟨_, rfl, rfl, Below.refl _ _⟩ | exact ⟨_, rfl, rfl, Below.refl _ _, hj⟩ | (cases bm <;> first | exact ⟨_, rfl, rfl, Below.refl _ _⟩ | exact ⟨_, rfl, rfl, Below.refl _ _, hj⟩)
        | 13, ho =>
          cases ho
          intro V aa wx hV hdep hval hj hsm hr
          have e37 : aa.tmps.getD 37 undef = .bool false := hr 37 (by decide) (by apply Array.mem_toList_iff.1; repeat (first | exact List.Mem.head _ | apply List.Mem.tail))
          have e44 : aa.tmps.getD 44 undef = .bool false := hr 44 (by decide) (by apply Array.mem_toList_iff.1; repeat (first | exact List.Mem.head _ | apply List.Mem.tail))
          rw [Array.getD_eq_getD_getElem?] at e37
          rw [Array.getD_eq_getD_getElem?] at e44
          unfold Oper.wp
          simp only [execOp, Act.eval, Array.getD_eq_getD_getElem?, e37, e44]
          go_simp
          first | exact ⟨_, rfl, rfl, Below.refl _ _⟩ | exact ⟨_, rfl, rfl, Below.refl _ _, hj⟩ | exact ⟨_, rfl, Below.refl _ _, hj⟩ | exact ⟨_, rfl, hj⟩
        | 14, ho =>
          cases ho
          intro V aa wx hV hdep hval hj hsm hr
          have e45 : aa.tmps.getD 45 undef = .bool false := hr 45 (by decide) (by apply Array.mem_toList_iff.1; repeat (first | exact List.Mem.head _ | apply List.Mem.tail))
          rw [Array.getD_eq_getD_getElem?] at e45
          unfold Oper.wp
          simp only [execOp, Act.eval, Array.getD_eq_getD_getElem?, e45]
          go_simp
          first | exact ⟨_, rfl, rfl, Below.refl _ _⟩ | exact ⟨_, rfl, rfl, Below.refl _ _, hj⟩ | exact ⟨_, rfl, Below.refl _ _, hj⟩ | exact ⟨_, rfl, hj⟩
        | 15, ho =>
          cases ho
          intro V aa wx hV hdep hval hj hsm hr
          have e3 : aa.tmps.getD 3 undef = .pointer (some ⟨X, 0, none⟩) := hsm 3 (by decide)
          have hkb := KC.out.below hj KC.out.lt
          have cc0 : wx.cell? ⟨X, 0, none⟩ = some (.int .u8 c.k) := hkb.cell 0
          have cc1 : wx.cell? ⟨X, 1, none⟩ = some (.int .i64 c.co) := hkb.cell 1
          have cc2 : wx.cell? ⟨X, 2, none⟩ = some (.int .i64 c.pe) := hkb.cell 2
          have cc3 : wx.cell? ⟨X, 3, none⟩ = some (.int .i64 c.tg) := hkb.cell 3
          have cc4 : wx.cell? ⟨X, 4, none⟩ = some (.int .i64 c.va) := hkb.cell 4
          have cc5 : wx.cell? ⟨X, 5, none⟩ = some (.int .i64 c.sz) := hkb.cell 5
          have cc6 : wx.cell? ⟨X, 6, none⟩ = some (.int .i64 c.ro) := hkb.cell 6
          have cc7 : wx.cell? ⟨X, 7, none⟩ = some (.int .u8 c.op) := hkb.cell 7
          have cc8 : wx.cell? ⟨X, 8, none⟩ = some (.slice ra c.rq.length rc) := hkb.cell 8
          have cc9 : wx.cell? ⟨X, 9, none⟩ = some (.int .i64 c.cl) := hkb.cell 9
          have cc10 : wx.cell? ⟨X, 10, none⟩ = some (.int .i64 c.ky) := hkb.cell 10
          rw [Array.getD_eq_getD_getElem?] at e3
          unfold Oper.wp
          simp only [execOp, Act.eval, Array.getD_eq_getD_getElem?, e3]
          go_simp
          first | exact ⟨_, rfl, rfl, Below.refl _ _⟩ | exact ⟨_, rfl, rfl, Below.refl _ _, hj⟩ | exact ⟨_, rfl, Below.refl _ _, hj⟩ | exact ⟨_, rfl, hj⟩
        | 16, ho =>
          cases ho
          intro V aa wx hV hdep hval hj hsm hr
          have e47 : aa.tmps.getD 47 undef = .agg #[.int .u8 c.k, .int .i64 c.co, .int .i64 c.pe, .int .i64 c.tg, .int .i64 c.va, .int .i64 c.sz, .int .i64 c.ro, .int .u8 c.op, .slice ra c.rq.length rc, .int .i64 c.cl, .int .i64 c.ky] := hr 47 (by decide) (by apply Array.mem_toList_iff.1; repeat (first | exact List.Mem.head _ | apply List.Mem.tail))
          rw [Array.getD_eq_getD_getElem?] at e47
          unfold Oper.wp
          simp only [execOp, Act.eval, Array.getD_eq_getD_getElem?, e47]
          go_simp
          refine (Decides_a c ra rc wx).mono ?_
          rintro e w' ⟨rfl, hb⟩
          exact ⟨_, rfl, by show Value.bool (decC c) = .bool true; rw [HBD.out], hb, hj.trans (hb.mono hj.size)⟩
        | 17, ho =>
          cases ho
          intro V aa wx hV hdep hval hj hsm hr
          have e48 : aa.tmps.getD 48 undef = .bool true := hr 48 (by decide) (by apply Array.mem_toList_iff.1; repeat (first | exact List.Mem.head _ | apply List.Mem.tail))
          rw [Array.getD_eq_getD_getElem?] at e48
          unfold Oper.wp
          simp only [execOp, Act.eval, Array.getD_eq_getD_getElem?, e48]
          go_simp
          first | exact ⟨_, rfl, rfl, Below.refl _ _⟩ | exact ⟨_, rfl, rfl, Below.refl _ _, hj⟩ | exact ⟨_, rfl, Below.refl _ _, hj⟩ | exact ⟨_, rfl, hj⟩
        | 18, ho =>
          cases ho
          intro V aa wx hV hdep hval hj hsm hr
          have e7 : aa.tmps.getD 7 undef = .pointer (some ⟨T, 0, none⟩) := hsm 7 (by decide)
          have hkb := KT.out.below hj KT.out.lt
          have cc0 : wx.cell? ⟨T, 0, none⟩ = some (.int .u8 t.k) := hkb.cell 0
          have cc1 : wx.cell? ⟨T, 1, none⟩ = some (.int .i64 t.co) := hkb.cell 1
          have cc2 : wx.cell? ⟨T, 2, none⟩ = some (.int .i64 t.pe) := hkb.cell 2
          have cc3 : wx.cell? ⟨T, 3, none⟩ = some (.int .i64 t.tg) := hkb.cell 3
          have cc4 : wx.cell? ⟨T, 4, none⟩ = some (.int .i64 t.va) := hkb.cell 4
          have cc5 : wx.cell? ⟨T, 5, none⟩ = some (.int .i64 t.sz) := hkb.cell 5
          have cc6 : wx.cell? ⟨T, 6, none⟩ = some (.int .i64 t.ro) := hkb.cell 6
          have cc7 : wx.cell? ⟨T, 7, none⟩ = some (.int .u8 t.op) := hkb.cell 7
          have cc8 : wx.cell? ⟨T, 8, none⟩ = some (.slice rt t.rq.length ct) := hkb.cell 8
          have cc9 : wx.cell? ⟨T, 9, none⟩ = some (.int .i64 t.cl) := hkb.cell 9
          have cc10 : wx.cell? ⟨T, 10, none⟩ = some (.int .i64 t.ky) := hkb.cell 10
          rw [Array.getD_eq_getD_getElem?] at e7
          unfold Oper.wp
          simp only [execOp, Act.eval, Array.getD_eq_getD_getElem?, e7]
          go_simp
          first | exact ⟨_, rfl, rfl, Below.refl _ _⟩ | exact ⟨_, rfl, rfl, Below.refl _ _, hj⟩ | exact ⟨_, rfl, Below.refl _ _, hj⟩ | exact ⟨_, rfl, hj⟩
        | 19, ho =>
          cases ho
          intro V aa wx hV hdep hval hj hsm hr
          have e50 : aa.tmps.getD 50 undef = .agg #[.int .u8 t.k, .int .i64 t.co, .int .i64 t.pe, .int .i64 t.tg, .int .i64 t.va, .int .i64 t.sz, .int .i64 t.ro, .int .u8 t.op, .slice rt t.rq.length ct, .int .i64 t.cl, .int .i64 t.ky] := hr 50 (by decide) (by apply Array.mem_toList_iff.1; repeat (first | exact List.Mem.head _ | apply List.Mem.tail))
          rw [Array.getD_eq_getD_getElem?] at e50
          unfold Oper.wp
          simp only [execOp, Act.eval, Array.getD_eq_getD_getElem?, e50]
          go_simp
          refine (Decides_a t rt ct wx).mono ?_
          rintro e w' ⟨rfl, hb⟩
          exact ⟨_, rfl, by show Value.bool (decC t) = .bool true; rw [HBE.out rfl], hb, hj.trans (hb.mono hj.size)⟩
        | 20, ho =>
          cases ho
          intro V aa wx hV hdep hval hj hsm hr
          have e51 : aa.tmps.getD 51 undef = .bool true := hr 51 (by decide) (by apply Array.mem_toList_iff.1; repeat (first | exact List.Mem.head _ | apply List.Mem.tail))
          rw [Array.getD_eq_getD_getElem?] at e51
          unfold Oper.wp
          simp only [execOp, Act.eval, Array.getD_eq_getD_getElem?, e51]
          go_simp
          first | exact ⟨_, rfl, rfl, Below.refl _ _⟩ | exact ⟨_, rfl, rfl, Below.refl _ _, hj⟩ | exact ⟨_, rfl, Below.refl _ _, hj⟩ | exact ⟨_, rfl, hj⟩
        | 21, ho =>
          cases ho
          intro V aa wx hV hdep hval hj hsm hr
          have e49 : aa.tmps.getD 49 undef = .bool true := hr 49 (by decide) (by apply Array.mem_toList_iff.1; repeat (first | exact List.Mem.head _ | apply List.Mem.tail))
          have e52 : aa.tmps.getD 52 undef = .bool false := hr 52 (by decide) (by apply Array.mem_toList_iff.1; repeat (first | exact List.Mem.head _ | apply List.Mem.tail))
          rw [Array.getD_eq_getD_getElem?] at e49
          rw [Array.getD_eq_getD_getElem?] at e52
          unfold Oper.wp
          simp only [execOp, Act.eval, Array.getD_eq_getD_getElem?, e49, e52]
          go_simp
          first | exact ⟨_, rfl, rfl, Below.refl _ _⟩ | exact ⟨_, rfl, rfl, Below.refl _ _, hj⟩ | exact ⟨_, rfl, Below.refl _ _, hj⟩ | exact ⟨_, rfl, hj⟩
        | 22, ho =>
          cases ho
          intro V aa wx hV hdep hval hj hsm hr
          have e46 : aa.tmps.getD 46 undef = .bool false := hr 46 (by decide) (by apply Array.mem_toList_iff.1; repeat (first | exact List.Mem.head _ | apply List.Mem.tail))
          have e53 : aa.tmps.getD 53 undef = .bool false := hr 53 (by decide) (by apply Array.mem_toList_iff.1; repeat (first | exact List.Mem.head _ | apply List.Mem.tail))
          rw [Array.getD_eq_getD_getElem?] at e46
          rw [Array.getD_eq_getD_getElem?] at e53
          unfold Oper.wp
          simp only [execOp, Act.eval, Array.getD_eq_getD_getElem?, e46, e53]
          go_simp
          first | exact ⟨_, rfl, rfl, Below.refl _ _⟩ | exact ⟨_, rfl, rfl, Below.refl _ _, hj⟩ | exact ⟨_, rfl, Below.refl _ _, hj⟩ | exact ⟨_, rfl, hj⟩
        | _ + 23, ho => cases ho
      case fin =>
        intro ff V w6 hV hj hr
        have e54 : ff 54 = .bool false := hr 54 (by decide)
        have HJ6 := hide hj
        clear hV hr hj
        simp only [putAll, slotsOf, List.filterMap_cons, List.filterMap_nil, List.foldl_cons, List.foldl_nil, Act.put, e54]
        simp only [List.setIfInBounds_toArray, List.set_cons_succ, List.set_cons_zero]
        go_wp2_with fail
        refine Met.intro ?_
        go_step
        (repeat apply Exists.intro)
        refine And.intro ?relm2 ?frm2
        case frm2 => with_reducible rfl
        exact ⟨rfl, HJ6.out⟩
  obtain ⟨rfl, hj⟩ := hcut
  have HB6 := hide (And.intro (HB5.out.1.trans (hj.mono HB5.out.2)) (Nat.le_trans HB5.out.2 hj.size))
  have KC6 := hide (KC.out.below hj KC.out.lt)
  have KO6 := hide (KO.out.below hj KO.out.lt)
  have KG6 := hide (KG.out.below hj KG.out.lt)
  have KT6 := hide (KT.out.below hj KT.out.lt)
  have NT6 := hide (NT.out.below hj)
  obtain ⟨w6, hw6⟩ : ∃ z, z = wc := ⟨_, rfl⟩
  subst hw6
  clear hj KC KO KG KT NT HB5
  have q0 : w6.cell? ⟨Xo, 0, none⟩ = some (.int .u8 o.k) := KO6.out.cell 0
  have q1 : w6.cell? ⟨Xo, 1, none⟩ = some (.int .i64 o.co) := KO6.out.cell 1
  have q2 : w6.cell? ⟨Xo, 2, none⟩ = some (.int .i64 o.pe) := KO6.out.cell 2
  have q3 : w6.cell? ⟨Xo, 3, none⟩ = some (.int .i64 o.tg) := KO6.out.cell 3
  have q4 : w6.cell? ⟨Xo, 4, none⟩ = some (.int .i64 o.va) := KO6.out.cell 4
  have q5 : w6.cell? ⟨Xo, 5, none⟩ = some (.int .i64 o.sz) := KO6.out.cell 5
  have q6 : w6.cell? ⟨Xo, 6, none⟩ = some (.int .i64 o.ro) := KO6.out.cell 6
  have q7 : w6.cell? ⟨Xo, 7, none⟩ = some (.int .u8 o.op) := KO6.out.cell 7
  have q8 : w6.cell? ⟨Xo, 8, none⟩ = some (.slice ro2 o.rq.length rco) := KO6.out.cell 8
  have q9 : w6.cell? ⟨Xo, 9, none⟩ = some (.int .i64 o.cl) := KO6.out.cell 9
  have q10 : w6.cell? ⟨Xo, 10, none⟩ = some (.int .i64 o.ky) := KO6.out.cell 10
  have ba := (Below.refl w6.heap.size w6).alloc (Nat.le_refl _) (.cells #[.int .u8 o.k, .int .i64 o.co, .int .i64 o.pe, .int .i64 o.tg, .int .i64 o.va, .int .i64 o.sz, .int .i64 o.ro, .int .u8 o.op, .slice ro2 o.rq.length rco, .int .i64 o.cl, .int .i64 o.ky] 24)
  have kp := Blk.new w6 24 #[.int .u8 o.k, .int .i64 o.co, .int .i64 o.pe, .int .i64 o.tg, .int .i64 o.va, .int .i64 o.sz, .int .i64 o.ro, .int .u8 o.op, .slice ro2 o.rq.length rco, .int .i64 o.cl, .int .i64 o.ky]
  obtain ⟨w7, hww7⟩ : ∃ y, w6.alloc (.cells #[.int .u8 o.k, .int .i64 o.co, .int .i64 o.pe, .int .i64 o.tg, .int .i64 o.va, .int .i64 o.sz, .int .i64 o.ro, .int .u8 o.op, .slice ro2 o.rq.length rco, .int .i64 o.cl, .int .i64 o.ky] 24) = y := ⟨_, rfl⟩
  obtain ⟨M, hnM⟩ : ∃ T, w6.heap.size = T := ⟨_, rfl⟩
  rw [hww7] at ba kp
  rw [hnM] at kp
  have HWw7 := hide hww7
  have HNM := hide hnM
  have KM := hide kp
  have HAM := hide ba
  clear ba kp hww7 hnM
  have HB7 := hide (And.intro (HB6.out.1.trans (HAM.out.mono HB6.out.2)) (Nat.le_trans HB6.out.2 HAM.out.size))
  go_upto_region 9 with (fail)
  rw [HWw7.out, HNM.out]
  have KC7 := KC6.out.below HAM.out KC6.out.lt
  have x0 : w7.cell? ⟨X, 0, none⟩ = some (.int .u8 c.k) := KC7.cell 0
  have z0 : w7.cell? ⟨M, 0, none⟩ = some (.int .u8 o.k) := KM.out.cell 0
  have f0 := KM.out.frozen 0
  have km : Blk (w7.setCell ⟨M, 0, none⟩ (.int .u8 c.k)) M 24 #[.int .u8 c.k, .int .i64 o.co, .int .i64 o.pe, .int .i64 o.tg, .int .i64 o.va, .int .i64 o.sz, .int .i64 o.ro, .int .u8 o.op, .slice ro2 o.rq.length rco, .int .i64 o.cl, .int .i64 o.ky] := KM.out.set_ 0 (.int .u8 c.k)
  have hb8 : Below w6.heap.size w6 (w7.setCell ⟨M, 0, none⟩ (.int .u8 c.k)) := HAM.out.setCell (p := ⟨M, 0, none⟩) (by rw [← HNM.out]; exact Nat.le_refl _) (.int .u8 c.k)
  obtain ⟨w8, hw8⟩ : ∃ z, w7.setCell ⟨M, 0, none⟩ (.int .u8 c.k) = z := ⟨_, rfl⟩
  rw [hw8] at km hb8
  have HB8 := hide (And.intro (HB6.out.1.trans (hb8.mono HB6.out.2)) (Nat.le_trans HB6.out.2 hb8.size))
  have KC8 := hide (KC6.out.below hb8 KC6.out.lt)
  have KG8 := hide (KG6.out.below hb8 KG6.out.lt)
  have KT8 := hide (KT6.out.below hb8 KT6.out.lt)
  have NT8 := hide (NT6.out.below hb8)
  have KM8 := hide km
  have m0 : w8.cell? ⟨M, 0, none⟩ = some (.int .u8 c.k) := km.cell 0
  have m1 : w8.cell? ⟨M, 1, none⟩ = some (.int .i64 o.co) := km.cell 1
  have m2 : w8.cell? ⟨M, 2, none⟩ = some (.int .i64 o.pe) := km.cell 2
  have m3 : w8.cell? ⟨M, 3, none⟩ = some (.int .i64 o.tg) := km.cell 3
  have m4 : w8.cell? ⟨M, 4, none⟩ = some (.int .i64 o.va) := km.cell 4
  have m5 : w8.cell? ⟨M, 5, none⟩ = some (.int .i64 o.sz) := km.cell 5
  have m6 : w8.cell? ⟨M, 6, none⟩ = some (.int .i64 o.ro) := km.cell 6
  have m7 : w8.cell? ⟨M, 7, none⟩ = some (.int .u8 o.op) := km.cell 7
  have m8 : w8.cell? ⟨M, 8, none⟩ = some (.slice ro2 o.rq.length rco) := km.cell 8
  have m9 : w8.cell? ⟨M, 9, none⟩ = some (.int .i64 o.cl) := km.cell 9
  have m10 : w8.cell? ⟨M, 10, none⟩ = some (.int .i64 o.ky) := km.cell 10
  have TRM := hide (Trim_a { o with k := c.k } ro2 rco w8 (HRO.out w8 HB8.out.1) (by show o.rq.length ≤ 100000; have := HG2.out; omega) HOO.out.op)
  obtain ⟨kk, hkk⟩ : ∃ z, trimC { o with k := c.k } = z := ⟨_, rfl⟩
  rw [hkk] at TRM
  have HKK := hide hkk
  unfold Cl.A at TRM
  unfold clA at TRM
  have HM6 := hide (show w6.heap.size ≤ M by rw [← HNM.out]; exact Nat.le_refl _)
  have HM8 := hide km.lt
  have H68 := hide hb8
  clear km hb8 hkk KO6 HB7 KC7 HAM HWw7 HNM KM q0 q1 q2 q3 q4 q5 q6 q7 q8 q9 q10
  go_wp2_with fail
  refine TRM.out.mono ?_
  rintro e w9 ⟨rk, ck, rfl, hown, hb9⟩
  have HB9 := hide (And.intro (HB8.out.1.trans (hb9.mono HB8.out.2)) (Nat.le_trans HB8.out.2 hb9.size))
  have H69 := hide (H68.out.trans (hb9.mono H68.out.size))
  have KM9 := hide (KM8.out.below hb9 KM8.out.lt)
  have OK9 := hide hown
  have HS89 := hide hb9.size
  clear hown hb9 TRM KC8 KG8 KT8 NT8 KM8 HB8 hw8 x0 z0 f0 m0 m1 m2 m3 m4 m5 m6 m7 m8 m9 m10
  have ba := (Below.refl w9.heap.size w9).alloc (Nat.le_refl _) (.cells #[.int .u8 kk.k, .int .i64 kk.co, .int .i64 kk.pe, .int .i64 kk.tg, .int .i64 kk.va, .int .i64 kk.sz, .int .i64 kk.ro, .int .u8 kk.op, .slice rk kk.rq.length ck, .int .i64 kk.cl, .int .i64 kk.ky] 24)
  have kp := Blk.new w9 24 #[.int .u8 kk.k, .int .i64 kk.co, .int .i64 kk.pe, .int .i64 kk.tg, .int .i64 kk.va, .int .i64 kk.sz, .int .i64 kk.ro, .int .u8 kk.op, .slice rk kk.rq.length ck, .int .i64 kk.cl, .int .i64 kk.ky]
  obtain ⟨w10, hww10⟩ : ∃ y, w9.alloc (.cells #[.int .u8 kk.k, .int .i64 kk.co, .int .i64 kk.pe, .int .i64 kk.tg, .int .i64 kk.va, .int .i64 kk.sz, .int .i64 kk.ro, .int .u8 kk.op, .slice rk kk.rq.length ck, .int .i64 kk.cl, .int .i64 kk.ky] 24) = y := ⟨_, rfl⟩
  obtain ⟨K, hnK⟩ : ∃ T, w9.heap.size = T := ⟨_, rfl⟩
  rw [hww10] at ba kp
  rw [hnK] at kp
  have HWw10 := hide hww10
  have HNK := hide hnK
  have KK := hide kp
  have HAK := hide ba
  clear ba kp hww10 hnK
  have HB10 := hide (And.intro (HB9.out.1.trans (HAK.out.mono HB9.out.2)) (Nat.le_trans HB9.out.2 HAK.out.size))
  have H610 := hide (H69.out.trans (HAK.out.mono H69.out.size))
  have KM10 := hide (KM9.out.below HAK.out KM9.out.lt)
  have OK10 := hide (own_belowR OK9.out HAK.out)
  have HMK := hide (show K ≠ M by have := KM9.out.lt; have := HNK.out; omega)
  go_upto_region 11 with (fail)
  rw [HWw10.out, HNK.out]
  have KC10 := hide (KC6.out.below H610.out KC6.out.lt)
  have KG10 := hide (KG6.out.below H610.out KG6.out.lt)
  have KT10 := hide (KT6.out.below H610.out KT6.out.lt)
  clear HWw10 HNK HAK KM9 OK9 HB9 H69 H68
  have t0 : w10.cell? ⟨T, 0, none⟩ = some (.int .u8 t.k) := KT10.out.cell 0
  by_cases h0 : usedL c.k = []
  · have tk : (t.k == 0) = true := by
      have : (trimC c).k = 0 := if_pos h0
      rw [HT.out] at this
      rw [this]; rfl
    have kk0 : (kk.k == 0) = true := by
      have : (trimC { o with k := c.k }).k = 0 := if_pos h0
      rw [HKK.out] at this
      rw [this]; rfl
    have k0 : w10.cell? ⟨K, 0, none⟩ = some (.int .u8 kk.k) := KK.out.cell 0
    have q0 : w10.cell? ⟨X, 0, none⟩ = some (.int .u8 c.k) := KC10.out.cell 0
    have q1 : w10.cell? ⟨X, 1, none⟩ = some (.int .i64 c.co) := KC10.out.cell 1
    have q2 : w10.cell? ⟨X, 2, none⟩ = some (.int .i64 c.pe) := KC10.out.cell 2
    have q3 : w10.cell? ⟨X, 3, none⟩ = some (.int .i64 c.tg) := KC10.out.cell 3
    have q4 : w10.cell? ⟨X, 4, none⟩ = some (.int .i64 c.va) := KC10.out.cell 4
    have q5 : w10.cell? ⟨X, 5, none⟩ = some (.int .i64 c.sz) := KC10.out.cell 5
    have q6 : w10.cell? ⟨X, 6, none⟩ = some (.int .i64 c.ro) := KC10.out.cell 6
    have q7 : w10.cell? ⟨X, 7, none⟩ = some (.int .u8 c.op) := KC10.out.cell 7
    have q8 : w10.cell? ⟨X, 8, none⟩ = some (.slice ra c.rq.length rc) := KC10.out.cell 8
    have q9 : w10.cell? ⟨X, 9, none⟩ = some (.int .i64 c.cl) := KC10.out.cell 9
    have q10 : w10.cell? ⟨X, 10, none⟩ = some (.int .i64 c.ky) := KC10.out.cell 10
    have g0 : w10.cell? ⟨Y, 0, none⟩ = some (.string key) := KG10.out.cell 0
    have g1 : w10.cell? ⟨Y, 1, none⟩ = some (.slice A l.length gc) := KG10.out.cell 1
    have MP := hide (May_p c ra rc key A gc l w10 (HRA.out w10 HB10.out.1) HRC.out (by have := HG1.out; omega) (HRG.out w10 HB10.out.1) (by have := HG3.out; omega))
    rw [decide_eq_false (none_may h0 l).1] at MP
    have DC := hide (fun w' => Decides_a c ra rc w')
    rw [none_dec h0] at DC
    unfold Cl.A clA at DC
    have H0 := hide h0
    clear h0
    go_wp2_with fail
    refine MP.out.mono ?_
    rintro e wa ⟨rfl, hba⟩
    have HBA := hide (And.intro (HB10.out.1.trans (hba.mono HB10.out.2)) (Nat.le_trans HB10.out.2 hba.size))
    have KCA := KC10.out.below hba KC10.out.lt
    have p0 : wa.cell? ⟨X, 0, none⟩ = some (.int .u8 c.k) := KCA.cell 0
    have p1 : wa.cell? ⟨X, 1, none⟩ = some (.int .i64 c.co) := KCA.cell 1
    have p2 : wa.cell? ⟨X, 2, none⟩ = some (.int .i64 c.pe) := KCA.cell 2
    have p3 : wa.cell? ⟨X, 3, none⟩ = some (.int .i64 c.tg) := KCA.cell 3
    have p4 : wa.cell? ⟨X, 4, none⟩ = some (.int .i64 c.va) := KCA.cell 4
    have p5 : wa.cell? ⟨X, 5, none⟩ = some (.int .i64 c.sz) := KCA.cell 5
    have p6 : wa.cell? ⟨X, 6, none⟩ = some (.int .i64 c.ro) := KCA.cell 6
    have p7 : wa.cell? ⟨X, 7, none⟩ = some (.int .u8 c.op) := KCA.cell 7
    have p8 : wa.cell? ⟨X, 8, none⟩ = some (.slice ra c.rq.length rc) := KCA.cell 8
    have p9 : wa.cell? ⟨X, 9, none⟩ = some (.int .i64 c.cl) := KCA.cell 9
    have p10 : wa.cell? ⟨X, 10, none⟩ = some (.int .i64 c.ky) := KCA.cell 10
    clear hba KCA MP q0 q1 q2 q3 q4 q5 q6 q7 q8 q9 q10 g0 g1
    go_wp2_with fail
    refine (DC.out wa).mono ?_
    rintro e wb ⟨rfl, hbb⟩
    have HBF := hide (HBA.out.1.trans (hbb.mono HBA.out.2))
    clear hbb
    go_wp2_with fail
    go_ret
    exact ⟨rfl, HBF.out⟩
  have HNE := hide h0
  have tk : (t.k == 0) = false := by
    have : (trimC c).k = c.k := if_neg h0
    rw [HT.out] at this
    have h1 := (used_kind h0).1
    have : ¬ t.k = 0 := by omega
    simpa using this
  have x0 : w10.cell? ⟨X, 0, none⟩ = some (.int .u8 c.k) := KC10.out.cell 0
  have ba := (Below.refl w10.heap.size w10).alloc (Nat.le_refl _) (.cells #[.int .i64 1] 3)
  have kb := Blk.new w10 3 #[.int .i64 1]
  obtain ⟨B1, hB1⟩ : ∃ z, w10.heap.size = z := ⟨_, rfl⟩
  have HB1' := hide hB1
  obtain ⟨w11, hw11⟩ : ∃ z, w10.alloc (.cells #[.int .i64 1] 3) = z := ⟨_, rfl⟩
  rw [hw11] at ba kb
  rw [hB1] at kb
  have n11 : NRow w11 (some ⟨B1, 0, none⟩) [1] := fun _ => ⟨_, rfl, kb.lt, fun i hi => by
    obtain rfl : i = 0 := by simpa using hi
    exact kb.cell 0⟩
  have HA11 := hide ba
  have N11 := hide n11
  have s11 : w11.heap.size = B1 + 1 := by rw [← hw11, ← hB1]; simp
  have HW11 := hide hw11
  have S11 := hide s11
  clear ba kb n11 hw11 s11 hB1 h0
  have ba := (Below.refl w11.heap.size w11).alloc (Nat.le_refl _) (.cells #[.int .u8 c.k, .int .i64 1, .int .i64 1, .int .i64 1, .int .i64 1, .int .i64 1, .int .i64 1, .int .u8 1, .slice (some ⟨B1, 0, none⟩) 1 1, .int .i64 1, .int .i64 1] 24)
  have kp := Blk.new w11 24 #[.int .u8 c.k, .int .i64 1, .int .i64 1, .int .i64 1, .int .i64 1, .int .i64 1, .int .i64 1, .int .u8 1, .slice (some ⟨B1, 0, none⟩) 1 1, .int .i64 1, .int .i64 1]
  obtain ⟨w12, hww12⟩ : ∃ y, w11.alloc (.cells #[.int .u8 c.k, .int .i64 1, .int .i64 1, .int .i64 1, .int .i64 1, .int .i64 1, .int .i64 1, .int .u8 1, .slice (some ⟨B1, 0, none⟩) 1 1, .int .i64 1, .int .i64 1] 24) = y := ⟨_, rfl⟩
  obtain ⟨N1, hnN1⟩ : ∃ T, w11.heap.size = T := ⟨_, rfl⟩
  rw [hww12] at ba kp
  rw [hnN1] at kp
  have HWw12 := hide hww12
  have HNN1 := hide hnN1
  have KN1 := hide kp
  have HAN1 := hide ba
  clear ba kp hww12 hnN1
  go_upto_region 14 with (fail)
  rw [HB1'.out, HW11.out]
  first | rw [HWw12.out] | skip
  rw [show B1 + 1 = N1 by rw [← HNN1.out, S11.out]]
  have H112 := hide (HA11.out.trans (HAN1.out.mono HA11.out.size))
  have HB12 := hide (And.intro (HB10.out.1.trans (H112.out.mono HB10.out.2)) (Nat.le_trans HB10.out.2 H112.out.size))
  have TRO := hide (Trim_a (oneC c.k) (some ⟨B1, 0, none⟩) 1 w12 (N11.out.below HAN1.out) (by show 1 ≤ 100000; omega) (by show (0 : Int) ≤ 1 ∧ (1 : Int) ≤ 255; omega))
  unfold Cl.A at TRO
  unfold clA at TRO
  unfold oneC at TRO
  obtain ⟨uu, huu⟩ : ∃ z, trimC ⟨c.k, 1, 1, 1, 1, 1, 1, 1, [1], 1, 1⟩ = z := ⟨_, rfl⟩
  rw [huu] at TRO
  have HU := hide huu
  clear huu
  dsimp only [List.length_cons, List.length_nil] at TRO
  have n0 : w12.cell? ⟨N1, 0, none⟩ = some (.int .u8 c.k) := KN1.out.cell 0
  have n1 : w12.cell? ⟨N1, 1, none⟩ = some (.int .i64 1) := KN1.out.cell 1
  have n2 : w12.cell? ⟨N1, 2, none⟩ = some (.int .i64 1) := KN1.out.cell 2
  have n3 : w12.cell? ⟨N1, 3, none⟩ = some (.int .i64 1) := KN1.out.cell 3
  have n4 : w12.cell? ⟨N1, 4, none⟩ = some (.int .i64 1) := KN1.out.cell 4
  have n5 : w12.cell? ⟨N1, 5, none⟩ = some (.int .i64 1) := KN1.out.cell 5
  have n6 : w12.cell? ⟨N1, 6, none⟩ = some (.int .i64 1) := KN1.out.cell 6
  have n7 : w12.cell? ⟨N1, 7, none⟩ = some (.int .u8 1) := KN1.out.cell 7
  have n8 : w12.cell? ⟨N1, 8, none⟩ = some (.slice (some ⟨B1, 0, none⟩) 1 1) := KN1.out.cell 8
  have n9 : w12.cell? ⟨N1, 9, none⟩ = some (.int .i64 1) := KN1.out.cell 9
  have n10 : w12.cell? ⟨N1, 10, none⟩ = some (.int .i64 1) := KN1.out.cell 10
  clear t0 tk x0
  go_wp2_with fail
  refine TRO.out.mono ?_
  rintro e w13 ⟨ru, du, rfl, hownu, hb13⟩
  have H613 := hide (H610.out.trans ((H112.out.trans (hb13.mono H112.out.size)).mono H610.out.size))
  have H1013 := hide (H112.out.trans (hb13.mono H112.out.size))
  clear hownu hb13 TRO H112 HA11 N11 HW11 S11 KN1 HAN1 HWw12 HNN1 HB1' HB12 KC10 KG10 KT10 n0 n1 n2 n3 n4 n5 n6 n7 n8 n9 n10
  have ba := (Below.refl w13.heap.size w13).alloc (Nat.le_refl _) (.cells #[.int .u8 uu.k, .int .i64 uu.co, .int .i64 uu.pe, .int .i64 uu.tg, .int .i64 uu.va, .int .i64 uu.sz, .int .i64 uu.ro, .int .u8 uu.op, .slice ru uu.rq.length du, .int .i64 uu.cl, .int .i64 uu.ky] 24)
  have kp := Blk.new w13 24 #[.int .u8 uu.k, .int .i64 uu.co, .int .i64 uu.pe, .int .i64 uu.tg, .int .i64 uu.va, .int .i64 uu.sz, .int .i64 uu.ro, .int .u8 uu.op, .slice ru uu.rq.length du, .int .i64 uu.cl, .int .i64 uu.ky]
  obtain ⟨w14, hww14⟩ : ∃ y, w13.alloc (.cells #[.int .u8 uu.k, .int .i64 uu.co, .int .i64 uu.pe, .int .i64 uu.tg, .int .i64 uu.va, .int .i64 uu.sz, .int .i64 uu.ro, .int .u8 uu.op, .slice ru uu.rq.length du, .int .i64 uu.cl, .int .i64 uu.ky] 24) = y := ⟨_, rfl⟩
  obtain ⟨U, hnU⟩ : ∃ T, w13.heap.size = T := ⟨_, rfl⟩
  rw [hww14] at ba kp
  rw [hnU] at kp
  have HWw14 := hide hww14
  have HNU := hide hnU
  have KU := hide kp
  have HAU := hide ba
  clear ba kp hww14 hnU
  have H614 := H613.out.trans (HAU.out.mono H613.out.size)
  have H1014 := H1013.out.trans (HAU.out.mono H1013.out.size)
  have HM := hide (show Mid 0 w6 w14 w8.heap.size M K U c kk uu rk ru ck du { o with k := c.k } ro2 rco from
    ⟨⟨rfl, fun h => absurd h (by omega), fun h => absurd h (by omega), fun h => absurd h (by omega), fun h => absurd h (by omega), fun h => absurd h (by omega), fun h => absurd h (by omega), fun h => absurd h (by omega), fun h => absurd h (by omega), fun h => absurd h (by omega), fun h => absurd h (by omega)⟩,
    fun w' hb => HRO.out w' (HB6.out.1.trans (hb.mono HB6.out.2)), HRCO.out, HG2.out, HOO.out.op, KM10.out.below H1014 KM10.out.lt, H614, KK.out.below H1014 KK.out.lt, own_belowR OK10.out H1014, KU.out, HM6.out, HM8.out, HMK.out, (by have h1 := KM10.out.lt; have h2 := H1013.out.size; have := HNU.out; omega)⟩)
  have HRC6 := hide (fun w' (hb : Below w6.heap.size w6 w') => HRA.out w' (HB6.out.1.trans (hb.mono HB6.out.2)))
  obtain ⟨m0, hm0⟩ : ∃ z, ({ o with k := c.k } : Cl) = z := ⟨_, rfl⟩
  rw [hm0] at HM
  obtain ⟨rm0, hrm0⟩ : ∃ z, ro2 = z := ⟨_, rfl⟩
  obtain ⟨cm0, hcm0⟩ : ∃ z, rco = z := ⟨_, rfl⟩
  rw [hrm0, hcm0] at HM
  clear hm0 hrm0 hcm0
  go_upto_region 15 with (fail)
  rw [HWw14.out, HNU.out]
  clear H614 H1014 HWw14 HNU HAU KU H613 H1013 KM10 OK10 KK HB10 H610 HMK HM8
  have uq : w14.cell? ⟨U, 1, none⟩ = some (.int .i64 uu.co) := HM.out.ubox.cell 1
  go_upto_if 86 with (fail)
  clear uq
  go_cut [] from 87 to 89 (fun wy => ∃ m' rm' cm', Mid 1 w6 wy w8.heap.size M K U c kk uu rk ru ck du m' rm' cm')
  case first =>
    have KX := KC6.out.below HM.out.low KC6.out.lt
    have x1 : w14.cell? ⟨X, 1, none⟩ = some (.int .i64 c.co) := KX.cell 1
    have z1 : w14.cell? ⟨M, 1, none⟩ = some (.int .i64 m0.co) := HM.out.box.cell 1
    have f1 := HM.out.box.frozen 1
    clear KX
    cases hf : hasF c.k 0 with
    | true =>
      have hu : (uu.co == 1) = true := by
        have : uu.co = 1 := by rw [← HU.out]; exact if_pos hf
        rw [this]; rfl
      have PP := hide (HM.out.put0)
      clear hf
      go_wp2_with fail
      refine Met.intro ?_
      go_step
      (repeat apply Exists.intro)
      refine And.intro ?relm3 ?frm3
      case frm3 => with_reducible rfl
      exact PP.out
    | false =>
      have hu : (uu.co == 1) = false := by
        have : uu.co = 0 := by rw [← HU.out]; exact if_neg (by rw [hf]; decide)
        rw [this]; rfl
      have PP := hide (HM.out.skip hf)
      clear hf
      go_wp2_with fail
      refine Met.intro ?_
      go_step
      (repeat apply Exists.intro)
      refine And.intro ?relm4 ?frm4
      case frm4 => with_reducible rfl
      exact ⟨_, _, _, PP.out⟩
  obtain ⟨m1, rm1, cm1, hmm⟩ := hcut
  obtain ⟨v0, hwv0⟩ : ∃ z, z = wc := ⟨_, rfl⟩
  subst hwv0
  clear HM
  have HM := hide hmm
  clear hmm
  have uq : v0.cell? ⟨U, 2, none⟩ = some (.int .i64 uu.pe) := HM.out.ubox.cell 2
  go_upto_if 92 with (fail)
  clear uq
  go_cut [] from 93 to 95 (fun wy => ∃ m' rm' cm', Mid 2 w6 wy w8.heap.size M K U c kk uu rk ru ck du m' rm' cm')
  case first =>
    have KX := KC6.out.below HM.out.low KC6.out.lt
    have x2 : v0.cell? ⟨X, 2, none⟩ = some (.int .i64 c.pe) := KX.cell 2
    have z2 : v0.cell? ⟨M, 2, none⟩ = some (.int .i64 m1.pe) := HM.out.box.cell 2
    have f2 := HM.out.box.frozen 2
    clear KX
    cases hf : hasF c.k 1 with
    | true =>
      have hu : (uu.pe == 1) = true := by
        have : uu.pe = 1 := by rw [← HU.out]; exact if_pos hf
        rw [this]; rfl
      have PP := hide (HM.out.put1)
      clear hf
      go_wp2_with fail
      refine Met.intro ?_
      go_step
      (repeat apply Exists.intro)
      refine And.intro ?relm5 ?frm5
      case frm5 => with_reducible rfl
      exact PP.out
    | false =>
      have hu : (uu.pe == 1) = false := by
        have : uu.pe = 0 := by rw [← HU.out]; exact if_neg (by rw [hf]; decide)
        rw [this]; rfl
      have PP := hide (HM.out.skip hf)
      clear hf
      go_wp2_with fail
      refine Met.intro ?_
      go_step
      (repeat apply Exists.intro)
      refine And.intro ?relm6 ?frm6
      case frm6 => with_reducible rfl
      exact ⟨_, _, _, PP.out⟩
  obtain ⟨m2, rm2, cm2, hmm⟩ := hcut
  obtain ⟨v1, hwv1⟩ : ∃ z, z = wc := ⟨_, rfl⟩
  subst hwv1
  clear HM
  have HM := hide hmm
  clear hmm
  have uq : v1.cell? ⟨U, 3, none⟩ = some (.int .i64 uu.tg) := HM.out.ubox.cell 3
  go_upto_if 98 with (fail)
  clear uq
  go_cut [] from 99 to 101 (fun wy => ∃ m' rm' cm', Mid 3 w6 wy w8.heap.size M K U c kk uu rk ru ck du m' rm' cm')
  case first =>
    have KX := KC6.out.below HM.out.low KC6.out.lt
    have x3 : v1.cell? ⟨X, 3, none⟩ = some (.int .i64 c.tg) := KX.cell 3
    have z3 : v1.cell? ⟨M, 3, none⟩ = some (.int .i64 m2.tg) := HM.out.box.cell 3
    have f3 := HM.out.box.frozen 3
    clear KX
    cases hf : hasF c.k 2 with
    | true =>
      have hu : (uu.tg == 1) = true := by
        have : uu.tg = 1 := by rw [← HU.out]; exact if_pos hf
        rw [this]; rfl
      have PP := hide (HM.out.put2)
      clear hf
      go_wp2_with fail
      refine Met.intro ?_
      go_step
      (repeat apply Exists.intro)
      refine And.intro ?relm7 ?frm7
      case frm7 => with_reducible rfl
      exact PP.out
    | false =>
      have hu : (uu.tg == 1) = false := by
        have : uu.tg = 0 := by rw [← HU.out]; exact if_neg (by rw [hf]; decide)
        rw [this]; rfl
      have PP := hide (HM.out.skip hf)
      clear hf
      go_wp2_with fail
      refine Met.intro ?_
      go_step
      (repeat apply Exists.intro)
      refine And.intro ?relm8 ?frm8
      case frm8 => with_reducible rfl
      exact ⟨_, _, _, PP.out⟩
  obtain ⟨m3, rm3, cm3, hmm⟩ := hcut
  obtain ⟨v2, hwv2⟩ : ∃ z, z = wc := ⟨_, rfl⟩
  subst hwv2
  clear HM
  have HM := hide hmm
  clear hmm
  have uq : v2.cell? ⟨U, 4, none⟩ = some (.int .i64 uu.va) := HM.out.ubox.cell 4
  go_upto_if 104 with (fail)
  clear uq
  go_cut [] from 105 to 107 (fun wy => ∃ m' rm' cm', Mid 4 w6 wy w8.heap.size M K U c kk uu rk ru ck du m' rm' cm')
  case first =>
    have KX := KC6.out.below HM.out.low KC6.out.lt
    have x4 : v2.cell? ⟨X, 4, none⟩ = some (.int .i64 c.va) := KX.cell 4
    have z4 : v2.cell? ⟨M, 4, none⟩ = some (.int .i64 m3.va) := HM.out.box.cell 4
    have f4 := HM.out.box.frozen 4
    clear KX
    cases hf : hasF c.k 3 with
    | true =>
      have hu : (uu.va == 1) = true := by
        have : uu.va = 1 := by rw [← HU.out]; exact if_pos hf
        rw [this]; rfl
      have PP := hide (HM.out.put3)
      clear hf
      go_wp2_with fail
      refine Met.intro ?_
      go_step
      (repeat apply Exists.intro)
      refine And.intro ?relm9 ?frm9
      case frm9 => with_reducible rfl
      exact PP.out
    | false =>
      have hu : (uu.va == 1) = false := by
        have : uu.va = 0 := by rw [← HU.out]; exact if_neg (by rw [hf]; decide)
        rw [this]; rfl
      have PP := hide (HM.out.skip hf)
      clear hf
      go_wp2_with fail
      refine Met.intro ?_
      go_step
      (repeat apply Exists.intro)
      refine And.intro ?relm10 ?frm10
      case frm10 => with_reducible rfl
      exact ⟨_, _, _, PP.out⟩
  obtain ⟨m4, rm4, cm4, hmm⟩ := hcut
  obtain ⟨v3, hwv3⟩ : ∃ z, z = wc := ⟨_, rfl⟩
  subst hwv3
  clear HM
  have HM := hide hmm
  clear hmm
  have uq : v3.cell? ⟨U, 5, none⟩ = some (.int .i64 uu.sz) := HM.out.ubox.cell 5
  go_upto_if 110 with (fail)
  clear uq
  go_cut [] from 111 to 113 (fun wy => ∃ m' rm' cm', Mid 5 w6 wy w8.heap.size M K U c kk uu rk ru ck du m' rm' cm')
  case first =>
    have KX := KC6.out.below HM.out.low KC6.out.lt
    have x5 : v3.cell? ⟨X, 5, none⟩ = some (.int .i64 c.sz) := KX.cell 5
    have z5 : v3.cell? ⟨M, 5, none⟩ = some (.int .i64 m4.sz) := HM.out.box.cell 5
    have f5 := HM.out.box.frozen 5
    clear KX
    cases hf : hasF c.k 4 with
    | true =>
      have hu : (uu.sz == 1) = true := by
        have : uu.sz = 1 := by rw [← HU.out]; exact if_pos hf
        rw [this]; rfl
      have PP := hide (HM.out.put4)
      clear hf
      go_wp2_with fail
      refine Met.intro ?_
      go_step
      (repeat apply Exists.intro)
      refine And.intro ?relm11 ?frm11
      case frm11 => with_reducible rfl
      exact PP.out
    | false =>
      have hu : (uu.sz == 1) = false := by
        have : uu.sz = 0 := by rw [← HU.out]; exact if_neg (by rw [hf]; decide)
        rw [this]; rfl
      have PP := hide (HM.out.skip hf)
      clear hf
      go_wp2_with fail
      refine Met.intro ?_
      go_step
      (repeat apply Exists.intro)
      refine And.intro ?relm12 ?frm12
      case frm12 => with_reducible rfl
      exact ⟨_, _, _, PP.out⟩
  obtain ⟨m5, rm5, cm5, hmm⟩ := hcut
  obtain ⟨v4, hwv4⟩ : ∃ z, z = wc := ⟨_, rfl⟩
  subst hwv4
  clear HM
  have HM := hide hmm
  clear hmm
  have uq : v4.cell? ⟨U, 6, none⟩ = some (.int .i64 uu.ro) := HM.out.ubox.cell 6
  go_upto_if 116 with (fail)
  clear uq
  go_cut [] from 117 to 119 (fun wy => ∃ m' rm' cm', Mid 6 w6 wy w8.heap.size M K U c kk uu rk ru ck du m' rm' cm')
  case first =>
    have KX := KC6.out.below HM.out.low KC6.out.lt
    have x6 : v4.cell? ⟨X, 6, none⟩ = some (.int .i64 c.ro) := KX.cell 6
    have z6 : v4.cell? ⟨M, 6, none⟩ = some (.int .i64 m5.ro) := HM.out.box.cell 6
    have f6 := HM.out.box.frozen 6
    clear KX
    cases hf : hasF c.k 5 with
    | true =>
      have hu : (uu.ro == 1) = true := by
        have : uu.ro = 1 := by rw [← HU.out]; exact if_pos hf
        rw [this]; rfl
      have PP := hide (HM.out.put5)
      clear hf
      go_wp2_with fail
      refine Met.intro ?_
      go_step
      (repeat apply Exists.intro)
      refine And.intro ?relm13 ?frm13
      case frm13 => with_reducible rfl
      exact PP.out
    | false =>
      have hu : (uu.ro == 1) = false := by
        have : uu.ro = 0 := by rw [← HU.out]; exact if_neg (by rw [hf]; decide)
        rw [this]; rfl
      have PP := hide (HM.out.skip hf)
      clear hf
      go_wp2_with fail
      refine Met.intro ?_
      go_step
      (repeat apply Exists.intro)
      refine And.intro ?relm14 ?frm14
      case frm14 => with_reducible rfl
      exact ⟨_, _, _, PP.out⟩
  obtain ⟨m6, rm6, cm6, hmm⟩ := hcut
  obtain ⟨v5, hwv5⟩ : ∃ z, z = wc := ⟨_, rfl⟩
  subst hwv5
  clear HM
  have HM := hide hmm
  clear hmm
  have uq : v5.cell? ⟨U, 7, none⟩ = some (.int .u8 uu.op) := HM.out.ubox.cell 7
  go_upto_if 122 with (fail)
  clear uq
  go_cut [] from 123 to 125 (fun wy => ∃ m' rm' cm', Mid 7 w6 wy w8.heap.size M K U c kk uu rk ru ck du m' rm' cm')
  case first =>
    have KX := KC6.out.below HM.out.low KC6.out.lt
    have x7 : v5.cell? ⟨X, 7, none⟩ = some (.int .u8 c.op) := KX.cell 7
    have z7 : v5.cell? ⟨M, 7, none⟩ = some (.int .u8 m6.op) := HM.out.box.cell 7
    have f7 := HM.out.box.frozen 7
    clear KX
    cases hf : hasF c.k 6 with
    | true =>
      have hu : (uu.op == 1) = true := by
        have : uu.op = 1 := by rw [← HU.out]; exact if_pos hf
        rw [this]; rfl
      have PP := hide (HM.out.put6 OK.out.op)
      clear hf
      go_wp2_with fail
      refine Met.intro ?_
      go_step
      (repeat apply Exists.intro)
      refine And.intro ?relm15 ?frm15
      case frm15 => with_reducible rfl
      exact PP.out
    | false =>
      have hu : (uu.op == 1) = false := by
        have : uu.op = 0 := by rw [← HU.out]; exact if_neg (by rw [hf]; decide)
        rw [this]; rfl
      have PP := hide (HM.out.skip hf)
      clear hf
      go_wp2_with fail
      refine Met.intro ?_
      go_step
      (repeat apply Exists.intro)
      refine And.intro ?relm16 ?frm16
      case frm16 => with_reducible rfl
      exact ⟨_, _, _, PP.out⟩
  obtain ⟨m7, rm7, cm7, hmm⟩ := hcut
  obtain ⟨v6, hwv6⟩ : ∃ z, z = wc := ⟨_, rfl⟩
  subst hwv6
  clear HM
  have HM := hide hmm
  clear hmm
  have uq : v6.cell? ⟨U, 8, none⟩ = some (.slice ru uu.rq.length du) := HM.out.ubox.cell 8
  go_upto_if 129 with (fail)
  clear uq
  go_cut [] from 130 to 132 (fun wy => ∃ m' rm' cm', Mid 8 w6 wy w8.heap.size M K U c kk uu rk ru ck du m' rm' cm')
  case first =>
    have KX := KC6.out.below HM.out.low KC6.out.lt
    have x8 : v6.cell? ⟨X, 8, none⟩ = some (.slice ra c.rq.length rc) := KX.cell 8
    have z8 : v6.cell? ⟨M, 8, none⟩ = some (.slice rm7 m7.rq.length cm7) := HM.out.box.cell 8
    have f8 := HM.out.box.frozen 8
    clear KX
    cases hf : hasF c.k 7 with
    | true =>
      have hu : ((uu.rq.length : Int) == 1) = true := by
        have : uu.rq = [1] := by rw [← HU.out]; exact if_pos hf
        rw [this]; rfl
      have PP := hide (HM.out.put7 HRC6.out HRC.out HG1.out)
      clear hf
      go_wp2_with fail
      refine Met.intro ?_
      go_step
      (repeat apply Exists.intro)
      refine And.intro ?relm17 ?frm17
      case frm17 => with_reducible rfl
      exact PP.out
    | false =>
      have hu : ((uu.rq.length : Int) == 1) = false := by
        have : uu.rq = [] := by rw [← HU.out]; exact if_neg (by rw [hf]; decide)
        rw [this]; rfl
      have PP := hide (HM.out.skip hf)
      clear hf
      go_wp2_with fail
      refine Met.intro ?_
      go_step
      (repeat apply Exists.intro)
      refine And.intro ?relm18 ?frm18
      case frm18 => with_reducible rfl
      exact ⟨_, _, _, PP.out⟩
  obtain ⟨m8, rm8, cm8, hmm⟩ := hcut
  obtain ⟨v7, hwv7⟩ : ∃ z, z = wc := ⟨_, rfl⟩
  subst hwv7
  clear HM
  have HM := hide hmm
  clear hmm
  have uq : v7.cell? ⟨U, 9, none⟩ = some (.int .i64 uu.cl) := HM.out.ubox.cell 9
  go_upto_if 135 with (fail)
  clear uq
  go_cut [] from 136 to 141 (fun wy => ∃ m' rm' cm', Mid 9 w6 wy w8.heap.size M K U c kk uu rk ru ck du m' rm' cm')
  case first =>
    have KX := KC6.out.below HM.out.low KC6.out.lt
    have x9 : v7.cell? ⟨X, 9, none⟩ = some (.int .i64 c.cl) := KX.cell 9
    have z9 : v7.cell? ⟨M, 9, none⟩ = some (.int .i64 m8.cl) := HM.out.box.cell 9
    have f9 := HM.out.box.frozen 9
    have x10 : v7.cell? ⟨X, 10, none⟩ = some (.int .i64 c.ky) := KX.cell 10
    have z10 : v7.cell? ⟨M, 10, none⟩ = some (.int .i64 m8.ky) := HM.out.box.cell 10
    have f10 := HM.out.box.frozen 10
    have hs8 := HM.out.box.set_ 9 (.int .i64 c.cl)
    have z10b : (v7.setCell ⟨M, 9, none⟩ (.int .i64 c.cl)).cell? ⟨M, 10, none⟩ = some (.int .i64 m8.ky) := hs8.cell 10
    have f10b := hs8.frozen 10
    have hs9 := HM.out.box.set_ 10 (.int .i64 c.ky)
    have z9b : (v7.setCell ⟨M, 10, none⟩ (.int .i64 c.ky)).cell? ⟨M, 9, none⟩ = some (.int .i64 m8.cl) := hs9.cell 9
    have f9b := hs9.frozen 9
    clear hs8 hs9
    clear KX
    cases hf : hasF c.k 8 with
    | true =>
      have hu : (uu.cl == 1) = true := by
        have : uu.cl = 1 := by rw [← HU.out]; exact if_pos hf
        rw [this]; rfl
      have PP := hide (HM.out.put8)
      clear hf
      go_upto_region 32 with (fail)
      go_region
      all_goals (go_wp2_with fail)
      all_goals (refine Met.intro ?_; go_step; (repeat apply Exists.intro); refine And.intro ?relz ?frz; case frz => with_reducible rfl)
      all_goals (obtain ⟨m', rm', cm', h⟩ := PP.out; first | exact ⟨m', rm', cm', h.drew⟩ | exact ⟨m', rm', cm', h⟩ | exact ⟨m', rm', cm', h.drew.drew⟩)
    | false =>
      have hu : (uu.cl == 1) = false := by
        have : uu.cl = 0 := by rw [← HU.out]; exact if_neg (by rw [hf]; decide)
        rw [this]; rfl
      have PP := hide (HM.out.skip hf)
      clear hf
      go_wp2_with fail
      refine Met.intro ?_
      go_step
      (repeat apply Exists.intro)
      refine And.intro ?relm19 ?frm19
      case frm19 => with_reducible rfl
      exact ⟨_, _, _, PP.out⟩
  obtain ⟨m9, rm9, cm9, hmm⟩ := hcut
  obtain ⟨v8, hwv8⟩ : ∃ z, z = wc := ⟨_, rfl⟩
  subst hwv8
  clear HM
  have HM := hide hmm
  clear hmm
  have AG := hide HM.out.mix.agr
  have HBF := hide (And.intro (HB6.out.1.trans (HM.out.low.mono HB6.out.2)) (Nat.le_trans HB6.out.2 HM.out.low.size))
  have KMG := hide HM.out.box
  have KKF := hide HM.out.kbox
  have MO1 := hide (HM.out.row v8 HM.out.low)
  have MO2 := hide HM.out.cap
  have MO3 := hide HM.out.len
  have MO4 := hide HM.out.op
  have NKF := hide (own_row HM.out.krow rfl)
  have KCF := hide (KC6.out.below HM.out.low KC6.out.lt)
  have KGF := hide (KG6.out.below HM.out.low KG6.out.lt)
  have KTF := hide (KT6.out.below HM.out.low KT6.out.lt)
  have NTF := hide (NT6.out.below HM.out.low)
  clear HM
  have HKL : Hid (kk.rq.length ≤ 60) := hide (by
    rw [← HKK.out]
    show (if hasF c.k 7 then o.rq else []).length ≤ 60
    split
    · exact HG2.out
    · exact Nat.zero_le _)
  obtain ⟨bk, hbk⟩ : ∃ b, decide (kk = t) = b := ⟨_, rfl⟩
  have HBK := hide hbk
  have HBMM : Hid (decide (mayC m9 l) = bm) := hide (by rw [← HBM.out]; exact decide_eq_decide.2 (AG.out.may l))
  have HBDM : Hid (decC m9 = bd) := hide (by rw [AG.out.dec]; exact HBD.out)
  have TRF := hide (fun w' (h : NRow w' rm9 m9.rq) => Trim_a m9 rm9 cm9 w' h (by have := MO3.out; omega) MO4.out)
  rw [show trimC m9 = t by rw [AG.out.trim, HT.out]] at TRF
  clear hbk
  go_upto_region 33 with (fail)
  let R : Nat → Value → World → Prop := fun sl u w1 => match sl with
    | 6 => u = .bool true
    | 142 => u = .agg #[.int .u8 m9.k, .int .i64 m9.co, .int .i64 m9.pe, .int .i64 m9.tg, .int .i64 m9.va, .int .i64 m9.sz, .int .i64 m9.ro, .int .u8 m9.op, .slice rm9 m9.rq.length cm9, .int .i64 m9.cl, .int .i64 m9.ky]
    | 143 => ∃ rb rd, u = .agg (t.A rb rd) ∧ NRow w1 rb t.rq
    | 144 => u = .agg #[.int .u8 t.k, .int .i64 t.co, .int .i64 t.pe, .int .i64 t.tg, .int .i64 t.va, .int .i64 t.sz, .int .i64 t.ro, .int .u8 t.op, .slice rt t.rq.length ct, .int .i64 t.cl, .int .i64 t.ky]
    | 145 => u = .bool true
    | 146 => u = .bool true
    | 147 => u = .agg #[.int .u8 m9.k, .int .i64 m9.co, .int .i64 m9.pe, .int .i64 m9.tg, .int .i64 m9.va, .int .i64 m9.sz, .int .i64 m9.ro, .int .u8 m9.op, .slice rm9 m9.rq.length cm9, .int .i64 m9.cl, .int .i64 m9.ky]
    | 148 => u = .agg #[.string key, .slice A l.length gc]
    | 149 => u = .bool bm
    | 150 => u = .agg #[.int .u8 c.k, .int .i64 c.co, .int .i64 c.pe, .int .i64 c.tg, .int .i64 c.va, .int .i64 c.sz, .int .i64 c.ro, .int .u8 c.op, .slice ra c.rq.length rc, .int .i64 c.cl, .int .i64 c.ky]
    | 151 => u = .agg #[.string key, .slice A l.length gc]
    | 152 => u = .bool bm
    | 153 => u = .bool true
    | 154 => u = .bool true
    | 155 => u = .bool true
    | 156 => u = .agg #[.int .u8 m9.k, .int .i64 m9.co, .int .i64 m9.pe, .int .i64 m9.tg, .int .i64 m9.va, .int .i64 m9.sz, .int .i64 m9.ro, .int .u8 m9.op, .slice rm9 m9.rq.length cm9, .int .i64 m9.cl, .int .i64 m9.ky]
    | 157 => u = .bool bd
    | 158 => u = .agg #[.int .u8 c.k, .int .i64 c.co, .int .i64 c.pe, .int .i64 c.tg, .int .i64 c.va, .int .i64 c.sz, .int .i64 c.ro, .int .u8 c.op, .slice ra c.rq.length rc, .int .i64 c.cl, .int .i64 c.ky]
    | 159 => u = .bool bd
    | 160 => u = .bool true
    | 161 => u = .bool true
    | 162 => u = .bool true
    | 163 => u = .agg #[.int .u8 kk.k, .int .i64 kk.co, .int .i64 kk.pe, .int .i64 kk.tg, .int .i64 kk.va, .int .i64 kk.sz, .int .i64 kk.ro, .int .u8 kk.op, .slice rk kk.rq.length ck, .int .i64 kk.cl, .int .i64 kk.ky]
    | 164 => u = .agg #[.int .u8 t.k, .int .i64 t.co, .int .i64 t.pe, .int .i64 t.tg, .int .i64 t.va, .int .i64 t.sz, .int .i64 t.ro, .int .u8 t.op, .slice rt t.rq.length ct, .int .i64 t.cl, .int .i64 t.ky]
    | 165 => u = .bool bk
    | 166 => u = .agg #[.int .u8 kk.k, .int .i64 kk.co, .int .i64 kk.pe, .int .i64 kk.tg, .int .i64 kk.va, .int .i64 kk.sz, .int .i64 kk.ro, .int .u8 kk.op, .slice rk kk.rq.length ck, .int .i64 kk.cl, .int .i64 kk.ky]
    | 167 => u = .agg #[.int .u8 t.k, .int .i64 t.co, .int .i64 t.pe, .int .i64 t.tg, .int .i64 t.va, .int .i64 t.sz, .int .i64 t.ro, .int .u8 t.op, .slice rt t.rq.length ct, .int .i64 t.cl, .int .i64 t.ky]
    | 168 => u = .bool bk
    | 169 => u = .bool true
    | 170 => u = .bool true
    | _ => True
  refine wp_region_relGW [(146, true), (155, true), (162, true)] R (fun a b => Below a.heap.size a b) (fun _ w => Below v8.heap.size v8 w) (by kernel_rfl) (by kernel_rfl) (by kernel_rfl) (by kernel_rfl) ?mono (fun w => Below.refl _ _) ((Below.refl _ _).drew) ?gs ?step ?fin
  case mono =>
    intro sl u wx wy h hk
    match sl with
    | 143 =>
      obtain ⟨rb, rd, h1, h2⟩ := h
      exact ⟨rb, rd, h1, h2.below hk⟩
    | 0 | 1 | 2 | 3 | 4 | 5 | 6 | 7 | 8 | 9 | 10 | 11 | 12 | 13 | 14 | 15 | 16 | 17 | 18 | 19 | 20 | 21 | 22 | 23 | 24 | 25 | 26 | 27 | 28 | 29 | 30 | 31 | 32 | 33 | 34 | 35 | 36 | 37 | 38 | 39 | 40 | 41 | 42 | 43 | 44 | 45 | 46 | 47 | 48 | 49 | 50 | 51 | 52 | 53 | 54 | 55 | 56 | 57 | 58 | 59 | 60 | 61 | 62 | 63 | 64 | 65 | 66 | 67 | 68 | 69 | 70 | 71 | 72 | 73 | 74 | 75 | 76 | 77 | 78 | 79 | 80 | 81 | 82 | 83 | 84 | 85 | 86 | 87 | 88 | 89 | 90 | 91 | 92 | 93 | 94 | 95 | 96 | 97 | 98 | 99 | 100 | 101 | 102 | 103 | 104 | 105 | 106 | 107 | 108 | 109 | 110 | 111 | 112 | 113 | 114 | 115 | 116 | 117 | 118 | 119 | 120 | 121 | 122 | 123 | 124 | 125 | 126 | 127 | 128 | 129 | 130 | 131 | 132 | 133 | 134 | 135 | 136 | 137 | 138 | 139 | 140 | 141 | 142 | 144 | 145 | 146 | 147 | 148 | 149 | 150 | 151 | 152 | 153 | 154 | 155 | 156 | 157 | 158 | 159 | 160 | 161 | 162 | 163 | 164 | 165 | 166 | 167 | 168 | 169 | 170 | _ + 171 => exact h
  case gs =>
    intro p hp u w1 h
    simp only [List.mem_cons, List.not_mem_nil, or_false] at hp
    rcases hp with rfl | rfl | rfl <;> exact h
  case step =>
    intro j o ho
    match j, ho with
    | 0, ho =>
      cases ho
      intro V aa wx hV hdep hval hj hsm hr
      have e8 : aa.tmps.getD 8 undef = .pointer (some ⟨M, 0, none⟩) := hsm 8 (by decide)
      have hkb := KMG.out.below hj KMG.out.lt
      have cc0 : wx.cell? ⟨M, 0, none⟩ = some (.int .u8 m9.k) := hkb.cell 0
      have cc1 : wx.cell? ⟨M, 1, none⟩ = some (.int .i64 m9.co) := hkb.cell 1
      have cc2 : wx.cell? ⟨M, 2, none⟩ = some (.int .i64 m9.pe) := hkb.cell 2
      have cc3 : wx.cell? ⟨M, 3, none⟩ = some (.int .i64 m9.tg) := hkb.cell 3
      have cc4 : wx.cell? ⟨M, 4, none⟩ = some (.int .i64 m9.va) := hkb.cell 4
      have cc5 : wx.cell? ⟨M, 5, none⟩ = some (.int .i64 m9.sz) := hkb.cell 5
      have cc6 : wx.cell? ⟨M, 6, none⟩ = some (.int .i64 m9.ro) := hkb.cell 6
      have cc7 : wx.cell? ⟨M, 7, none⟩ = some (.int .u8 m9.op) := hkb.cell 7
      have cc8 : wx.cell? ⟨M, 8, none⟩ = some (.slice rm9 m9.rq.length cm9) := hkb.cell 8
      have cc9 : wx.cell? ⟨M, 9, none⟩ = some (.int .i64 m9.cl) := hkb.cell 9
      have cc10 : wx.cell? ⟨M, 10, none⟩ = some (.int .i64 m9.ky) := hkb.cell 10
      rw [Array.getD_eq_getD_getElem?] at e8
      unfold Oper.wp
      simp only [execOp, Act.eval, Array.getD_eq_getD_getElem?, e8]
      go_simp
      first | exact ⟨_, rfl, rfl, Below.refl _ _⟩ | exact ⟨_, rfl, rfl, Below.refl _ _, hj⟩ | exact ⟨_, rfl, Below.refl _ _, hj⟩ | exact ⟨_, rfl, hj⟩
    | 1, ho =>
      cases ho
      intro V aa wx hV hdep hval hj hsm hr
      have e142 : aa.tmps.getD 142 undef = .agg #[.int .u8 m9.k, .int .i64 m9.co, .int .i64 m9.pe, .int .i64 m9.tg, .int .i64 m9.va, .int .i64 m9.sz, .int .i64 m9.ro, .int .u8 m9.op, .slice rm9 m9.rq.length cm9, .int .i64 m9.cl, .int .i64 m9.ky] := hr 142 (by decide) (by apply Array.mem_toList_iff.1; repeat (first | exact List.Mem.head _ | apply List.Mem.tail))
      rw [Array.getD_eq_getD_getElem?] at e142
      unfold Oper.wp
      simp only [execOp, Act.eval, Array.getD_eq_getD_getElem?, e142]
      go_simp
      refine (TRF.out wx (MO1.out.below hj)).mono ?_
      rintro e w' ⟨rb, rd, rfl, hown, hb⟩
      exact ⟨_, rfl, ⟨rb, rd, rfl, own_row hown rfl⟩, hb, hj.trans (hb.mono hj.size)⟩
    | 2, ho =>
      cases ho
      intro V aa wx hV hdep hval hj hsm hr
      have e7 : aa.tmps.getD 7 undef = .pointer (some ⟨T, 0, none⟩) := hsm 7 (by decide)
      have hkb := KTF.out.below hj KTF.out.lt
      have cc0 : wx.cell? ⟨T, 0, none⟩ = some (.int .u8 t.k) := hkb.cell 0
      have cc1 : wx.cell? ⟨T, 1, none⟩ = some (.int .i64 t.co) := hkb.cell 1
      have cc2 : wx.cell? ⟨T, 2, none⟩ = some (.int .i64 t.pe) := hkb.cell 2
      have cc3 : wx.cell? ⟨T, 3, none⟩ = some (.int .i64 t.tg) := hkb.cell 3
      have cc4 : wx.cell? ⟨T, 4, none⟩ = some (.int .i64 t.va) := hkb.cell 4
      have cc5 : wx.cell? ⟨T, 5, none⟩ = some (.int .i64 t.sz) := hkb.cell 5
      have cc6 : wx.cell? ⟨T, 6, none⟩ = some (.int .i64 t.ro) := hkb.cell 6
      have cc7 : wx.cell? ⟨T, 7, none⟩ = some (.int .u8 t.op) := hkb.cell 7
      have cc8 : wx.cell? ⟨T, 8, none⟩ = some (.slice rt t.rq.length ct) := hkb.cell 8
      have cc9 : wx.cell? ⟨T, 9, none⟩ = some (.int .i64 t.cl) := hkb.cell 9
      have cc10 : wx.cell? ⟨T, 10, none⟩ = some (.int .i64 t.ky) := hkb.cell 10
      rw [Array.getD_eq_getD_getElem?] at e7
      unfold Oper.wp
      simp only [execOp, Act.eval, Array.getD_eq_getD_getElem?, e7]
      go_simp
      first | exact ⟨_, rfl, rfl, Below.refl _ _⟩ | exact ⟨_, rfl, rfl, Below.refl _ _, hj⟩ | exact ⟨_, rfl, Below.refl _ _, hj⟩ | exact ⟨_, rfl, hj⟩
    | 3, ho =>
      cases ho
      intro V aa wx hV hdep hval hj hsm hr
      have r143 := hr 143 (by decide) (by apply Array.mem_toList_iff.1; repeat (first | exact List.Mem.head _ | apply List.Mem.tail))
      have e144 : aa.tmps.getD 144 undef = .agg #[.int .u8 t.k, .int .i64 t.co, .int .i64 t.pe, .int .i64 t.tg, .int .i64 t.va, .int .i64 t.sz, .int .i64 t.ro, .int .u8 t.op, .slice rt t.rq.length ct, .int .i64 t.cl, .int .i64 t.ky] := hr 144 (by decide) (by apply Array.mem_toList_iff.1; repeat (first | exact List.Mem.head _ | apply List.Mem.tail))
      obtain ⟨rb, rd, e143, hn143⟩ := r143
      have e143 : aa.tmps.getD 143 undef = .agg (t.A rb rd) := e143
      rw [Array.getD_eq_getD_getElem?] at e144
      rw [Array.getD_eq_getD_getElem?] at e143
      unfold Oper.wp
      simp only [execOp, Act.eval, Array.getD_eq_getD_getElem?, e144, e143]
      go_simp
      refine (Same_b t t rb rt rd ct wx hn143 (NTF.out.below hj) (by have := HTL.out; omega) (by have := HTL.out; omega)).mono ?_
      rintro e w' ⟨rfl, hb⟩
      exact ⟨_, rfl, by show Value.bool (decide (t = t)) = .bool true; rw [decide_eq_true rfl], hb, hj.trans (hb.mono hj.size)⟩
    | 4, ho =>
      cases ho
      intro V aa wx hV hdep hval hj hsm hr
      have e145 : aa.tmps.getD 145 undef = .bool true := hr 145 (by decide) (by apply Array.mem_toList_iff.1; repeat (first | exact List.Mem.head _ | apply List.Mem.tail))
      rw [Array.getD_eq_getD_getElem?] at e145
      unfold Oper.wp
      simp only [execOp, Act.eval, Array.getD_eq_getD_getElem?, e145]
      go_simp
      first | exact ⟨_, rfl, rfl, Below.refl _ _⟩ | exact ⟨_, rfl, rfl, Below.refl _ _, hj⟩ | exact ⟨_, rfl, Below.refl _ _, hj⟩ | exact ⟨_, rfl, hj⟩
    | 5, ho =>
      cases ho
      intro V aa wx hV hdep hval hj hsm hr
      have e8 : aa.tmps.getD 8 undef = .pointer (some ⟨M, 0, none⟩) := hsm 8 (by decide)
      have hkb := KMG.out.below hj KMG.out.lt
      have cc0 : wx.cell? ⟨M, 0, none⟩ = some (.int .u8 m9.k) := hkb.cell 0
      have cc1 : wx.cell? ⟨M, 1, none⟩ = some (.int .i64 m9.co) := hkb.cell 1
      have cc2 : wx.cell? ⟨M, 2, none⟩ = some (.int .i64 m9.pe) := hkb.cell 2
      have cc3 : wx.cell? ⟨M, 3, none⟩ = some (.int .i64 m9.tg) := hkb.cell 3
      have cc4 : wx.cell? ⟨M, 4, none⟩ = some (.int .i64 m9.va) := hkb.cell 4
      have cc5 : wx.cell? ⟨M, 5, none⟩ = some (.int .i64 m9.sz) := hkb.cell 5
      have cc6 : wx.cell? ⟨M, 6, none⟩ = some (.int .i64 m9.ro) := hkb.cell 6
      have cc7 : wx.cell? ⟨M, 7, none⟩ = some (.int .u8 m9.op) := hkb.cell 7
      have cc8 : wx.cell? ⟨M, 8, none⟩ = some (.slice rm9 m9.rq.length cm9) := hkb.cell 8
      have cc9 : wx.cell? ⟨M, 9, none⟩ = some (.int .i64 m9.cl) := hkb.cell 9
      have cc10 : wx.cell? ⟨M, 10, none⟩ = some (.int .i64 m9.ky) := hkb.cell 10
      rw [Array.getD_eq_getD_getElem?] at e8
      unfold Oper.wp
      simp only [execOp, Act.eval, Array.getD_eq_getD_getElem?, e8]
      go_simp
      first | exact ⟨_, rfl, rfl, Below.refl _ _⟩ | exact ⟨_, rfl, rfl, Below.refl _ _, hj⟩ | exact ⟨_, rfl, Below.refl _ _, hj⟩ | exact ⟨_, rfl, hj⟩
    | 6, ho =>
      cases ho
      intro V aa wx hV hdep hval hj hsm hr
      have e5 : aa.tmps.getD 5 undef = .pointer (some ⟨Y, 0, none⟩) := hsm 5 (by decide)
      have hkb := KGF.out.below hj KGF.out.lt
      have cc0 : wx.cell? ⟨Y, 0, none⟩ = some (.string key) := hkb.cell 0
      have cc1 : wx.cell? ⟨Y, 1, none⟩ = some (.slice A l.length gc) := hkb.cell 1
      rw [Array.getD_eq_getD_getElem?] at e5
      unfold Oper.wp
      simp only [execOp, Act.eval, Array.getD_eq_getD_getElem?, e5]
      go_simp
      first | exact ⟨_, rfl, rfl, Below.refl _ _⟩ | exact ⟨_, rfl, rfl, Below.refl _ _, hj⟩ | exact ⟨_, rfl, Below.refl _ _, hj⟩ | exact ⟨_, rfl, hj⟩
    | 7, ho =>
      cases ho
      intro V aa wx hV hdep hval hj hsm hr
      have e147 : aa.tmps.getD 147 undef = .agg #[.int .u8 m9.k, .int .i64 m9.co, .int .i64 m9.pe, .int .i64 m9.tg, .int .i64 m9.va, .int .i64 m9.sz, .int .i64 m9.ro, .int .u8 m9.op, .slice rm9 m9.rq.length cm9, .int .i64 m9.cl, .int .i64 m9.ky] := hr 147 (by decide) (by apply Array.mem_toList_iff.1; repeat (first | exact List.Mem.head _ | apply List.Mem.tail))
      have e148 : aa.tmps.getD 148 undef = .agg #[.string key, .slice A l.length gc] := hr 148 (by decide) (by apply Array.mem_toList_iff.1; repeat (first | exact List.Mem.head _ | apply List.Mem.tail))
      rw [Array.getD_eq_getD_getElem?] at e147
      rw [Array.getD_eq_getD_getElem?] at e148
      unfold Oper.wp
      simp only [execOp, Act.eval, Array.getD_eq_getD_getElem?, e147, e148]
      go_simp
      refine (May_p m9 rm9 cm9 key A gc l wx (MO1.out.below hj) MO2.out (by have := MO3.out; omega) (HRG.out wx (HBF.out.1.trans (hj.mono HBF.out.2))) (by have := HG3.out; omega)).mono ?_
      rintro e w' ⟨rfl, hb⟩
      exact ⟨_, rfl, by show Value.bool (decide (mayC m9 l)) = .bool bm; rw [HBMM.out], hb, hj.trans (hb.mono hj.size)⟩
    | 8, ho =>
      cases ho
      intro V aa wx hV hdep hval hj hsm hr
      have e3 : aa.tmps.getD 3 undef = .pointer (some ⟨X, 0, none⟩) := hsm 3 (by decide)
      have hkb := KCF.out.below hj KCF.out.lt
      have cc0 : wx.cell? ⟨X, 0, none⟩ = some (.int .u8 c.k) := hkb.cell 0
      have cc1 : wx.cell? ⟨X, 1, none⟩ = some (.int .i64 c.co) := hkb.cell 1
      have cc2 : wx.cell? ⟨X, 2, none⟩ = some (.int .i64 c.pe) := hkb.cell 2
      have cc3 : wx.cell? ⟨X, 3, none⟩ = some (.int .i64 c.tg) := hkb.cell 3
      have cc4 : wx.cell? ⟨X, 4, none⟩ = some (.int .i64 c.va) := hkb.cell 4
      have cc5 : wx.cell? ⟨X, 5, none⟩ = some (.int .i64 c.sz) := hkb.cell 5
      have cc6 : wx.cell? ⟨X, 6, none⟩ = some (.int .i64 c.ro) := hkb.cell 6
      have cc7 : wx.cell? ⟨X, 7, none⟩ = some (.int .u8 c.op) := hkb.cell 7
      have cc8 : wx.cell? ⟨X, 8, none⟩ = some (.slice ra c.rq.length rc) := hkb.cell 8
      have cc9 : wx.cell? ⟨X, 9, none⟩ = some (.int .i64 c.cl) := hkb.cell 9
      have cc10 : wx.cell? ⟨X, 10, none⟩ = some (.int .i64 c.ky) := hkb.cell 10
      rw [Array.getD_eq_getD_getElem?] at e3
      unfold Oper.wp
      simp only [execOp, Act.eval, Array.getD_eq_getD_getElem?, e3]
      go_simp
      first | exact ⟨_, rfl, rfl, Below.refl _ _⟩ | exact ⟨_, rfl, rfl, Below.refl _ _, hj⟩ | exact ⟨_, rfl, Below.refl _ _, hj⟩ | exact ⟨_, rfl, hj⟩
    | 9, ho =>
      cases ho
      intro V aa wx hV hdep hval hj hsm hr
      have e5 : aa.tmps.getD 5 undef = .pointer (some ⟨Y, 0, none⟩) := hsm 5 (by decide)
      have hkb := KGF.out.below hj KGF.out.lt
      have cc0 : wx.cell? ⟨Y, 0, none⟩ = some (.string key) := hkb.cell 0
      have cc1 : wx.cell? ⟨Y, 1, none⟩ = some (.slice A l.length gc) := hkb.cell 1
      rw [Array.getD_eq_getD_getElem?] at e5
      unfold Oper.wp
      simp only [execOp, Act.eval, Array.getD_eq_getD_getElem?, e5]
      go_simp
      first | exact ⟨_, rfl, rfl, Below.refl _ _⟩ | exact ⟨_, rfl, rfl, Below.refl _ _, hj⟩ | exact ⟨_, rfl, Below.refl _ _, hj⟩ | exact ⟨_, rfl, hj⟩
    | 10, ho =>
      cases ho
      intro V aa wx hV hdep hval hj hsm hr
      have e150 : aa.tmps.getD 150 undef = .agg #[.int .u8 c.k, .int .i64 c.co, .int .i64 c.pe, .int .i64 c.tg, .int .i64 c.va, .int .i64 c.sz, .int .i64 c.ro, .int .u8 c.op, .slice ra c.rq.length rc, .int .i64 c.cl, .int .i64 c.ky] := hr 150 (by decide) (by apply Array.mem_toList_iff.1; repeat (first | exact List.Mem.head _ | apply List.Mem.tail))
      have e151 : aa.tmps.getD 151 undef = .agg #[.string key, .slice A l.length gc] := hr 151 (by decide) (by apply Array.mem_toList_iff.1; repeat (first | exact List.Mem.head _ | apply List.Mem.tail))
      rw [Array.getD_eq_getD_getElem?] at e150
      rw [Array.getD_eq_getD_getElem?] at e151
      unfold Oper.wp
      simp only [execOp, Act.eval, Array.getD_eq_getD_getElem?, e150, e151]
      go_simp
      refine (May_p c ra rc key A gc l wx (HRA.out wx (HBF.out.1.trans (hj.mono HBF.out.2))) HRC.out (by have := HG1.out; omega) (HRG.out wx (HBF.out.1.trans (hj.mono HBF.out.2))) (by have := HG3.out; omega)).mono ?_
      rintro e w' ⟨rfl, hb⟩
      exact ⟨_, rfl, by show Value.bool (decide (mayC c l)) = .bool bm; rw [HBM.out], hb, hj.trans (hb.mono hj.size)⟩
    | 11, ho =>
      cases ho
      intro V aa wx hV hdep hval hj hsm hr
      have e149 : aa.tmps.getD 149 undef = .bool bm := hr 149 (by decide) (by apply Array.mem_toList_iff.1; repeat (first | exact List.Mem.head _ | apply List.Mem.tail))
      have e152 : aa.tmps.getD 152 undef = .bool bm := hr 152 (by decide) (by apply Array.mem_toList_iff.1; repeat (first | exact List.Mem.head _ | apply List.Mem.tail))
      rw [Array.getD_eq_getD_getElem?] at e149
      rw [Array.getD_eq_getD_getElem?] at e152
      unfold Oper.wp
      simp only [execOp, Act.eval, Array.getD_eq_getD_getElem?, e149, e152]
      go_simp
      first | exact ⟨_, rfl, rfl, Below.refl _ _⟩ | exact ⟨_, rfl, rfl, Below.refl _ _, hj⟩ | (cases bm <;> first | exact ⟨_, rfl, rfl, Below.refl _ _⟩ | exact ⟨_, rfl, rfl, Below.refl _ _, hj⟩)
    | 12, ho =>
      cases ho
      intro V aa wx hV hdep hval hj hsm hr
      have e146 : aa.tmps.getD 146 undef = .bool true := hr 146 (by decide) (by apply Array.mem_toList_iff.1; repeat (first | exact List.Mem.head _ | apply List.Mem.tail))
      have e153 : aa.tmps.getD 153 undef = .bool true := hr 153 (by decide) (by apply Array.mem_toList_iff.1; repeat (first | exact List.Mem.head _ | apply List.Mem.tail))
      rw [Array.getD_eq_getD_getElem?] at e146
      rw [Array.getD_eq_getD_getElem?] at e153
      unfold Oper.wp
      simp only [execOp, Act.eval, Array.getD_eq_getD_getElem?, e146, e153]
      go_simp
      first | exact ⟨_, rfl, rfl, Below.refl _ _⟩ | exact ⟨_, rfl, rfl, Below.refl _ _, hj⟩ | exact ⟨_, rfl, Below.refl _ _, hj⟩ | exact ⟨_, rfl, hj⟩
    | 13, ho =>
      cases ho
      intro V aa wx hV hdep hval hj hsm hr
      have e154 : aa.tmps.getD 154 undef = .bool true := hr 154 (by decide) (by apply Array.mem_toList_iff.1; repeat (first | exact List.Mem.head _ | apply List.Mem.tail))
      rw [Array.getD_eq_getD_getElem?] at e154
      unfold Oper.wp
      simp only [execOp, Act.eval, Array.getD_eq_getD_getElem?, e154]
      go_simp
      first | exact ⟨_, rfl, rfl, Below.refl _ _⟩ | exact ⟨_, rfl, rfl, Below.refl _ _, hj⟩ | exact ⟨_, rfl, Below.refl _ _, hj⟩ | exact ⟨_, rfl, hj⟩
    | 14, ho =>
      cases ho
      intro V aa wx hV hdep hval hj hsm hr
      have e8 : aa.tmps.getD 8 undef = .pointer (some ⟨M, 0, none⟩) := hsm 8 (by decide)
      have hkb := KMG.out.below hj KMG.out.lt
      have cc0 : wx.cell? ⟨M, 0, none⟩ = some (.int .u8 m9.k) := hkb.cell 0
      have cc1 : wx.cell? ⟨M, 1, none⟩ = some (.int .i64 m9.co) := hkb.cell 1
      have cc2 : wx.cell? ⟨M, 2, none⟩ = some (.int .i64 m9.pe) := hkb.cell 2
      have cc3 : wx.cell? ⟨M, 3, none⟩ = some (.int .i64 m9.tg) := hkb.cell 3
      have cc4 : wx.cell? ⟨M, 4, none⟩ = some (.int .i64 m9.va) := hkb.cell 4
      have cc5 : wx.cell? ⟨M, 5, none⟩ = some (.int .i64 m9.sz) := hkb.cell 5
      have cc6 : wx.cell? ⟨M, 6, none⟩ = some (.int .i64 m9.ro) := hkb.cell 6
      have cc7 : wx.cell? ⟨M, 7, none⟩ = some (.int .u8 m9.op) := hkb.cell 7
      have cc8 : wx.cell? ⟨M, 8, none⟩ = some (.slice rm9 m9.rq.length cm9) := hkb.cell 8
      have cc9 : wx.cell? ⟨M, 9, none⟩ = some (.int .i64 m9.cl) := hkb.cell 9
      have cc10 : wx.cell? ⟨M, 10, none⟩ = some (.int .i64 m9.ky) := hkb.cell 10
      rw [Array.getD_eq_getD_getElem?] at e8
      unfold Oper.wp
      simp only [execOp, Act.eval, Array.getD_eq_getD_getElem?, e8]
      go_simp
      first | exact ⟨_, rfl, rfl, Below.refl _ _⟩ | exact ⟨_, rfl, rfl, Below.refl _ _, hj⟩ | exact ⟨_, rfl, Below.refl _ _, hj⟩ | exact ⟨_, rfl, hj⟩
    | 15, ho =>
      cases ho
      intro V aa wx hV hdep hval hj hsm hr
      have e156 : aa.tmps.getD 156 undef = .agg #[.int .u8 m9.k, .int .i64 m9.co, .int .i64 m9.pe, .int .i64 m9.tg, .int .i64 m9.va, .int .i64 m9.sz, .int .i64 m9.ro, .int .u8 m9.op, .slice rm9 m9.rq.length cm9, .int .i64 m9.cl, .int .i64 m9.ky] := hr 156 (by decide) (by apply Array.mem_toList_iff.1; repeat (first | exact List.Mem.head _ | apply List.Mem.tail))
      rw [Array.getD_eq_getD_getElem?] at e156
      unfold Oper.wp
      simp only [execOp, Act.eval, Array.getD_eq_getD_getElem?, e156]
      go_simp
      refine (Decides_a m9 rm9 cm9 wx).mono ?_
      rintro e w' ⟨rfl, hb⟩
      exact ⟨_, rfl, by show Value.bool (decC m9) = .bool bd; rw [HBDM.out], hb, hj.trans (hb.mono hj.size)⟩
    | 16, ho =>
      cases ho
      intro V aa wx hV hdep hval hj hsm hr
      have e3 : aa.tmps.getD 3 undef = .pointer (some ⟨X, 0, none⟩) := hsm 3 (by decide)
      have hkb := KCF.out.below hj KCF.out.lt
      have cc0 : wx.cell? ⟨X, 0, none⟩ = some (.int .u8 c.k) := hkb.cell 0
      have cc1 : wx.cell? ⟨X, 1, none⟩ = some (.int .i64 c.co) := hkb.cell 1
      have cc2 : wx.cell? ⟨X, 2, none⟩ = some (.int .i64 c.pe) := hkb.cell 2
      have cc3 : wx.cell? ⟨X, 3, none⟩ = some (.int .i64 c.tg) := hkb.cell 3
      have cc4 : wx.cell? ⟨X, 4, none⟩ = some (.int .i64 c.va) := hkb.cell 4
      have cc5 : wx.cell? ⟨X, 5, none⟩ = some (.int .i64 c.sz) := hkb.cell 5
      have cc6 : wx.cell? ⟨X, 6, none⟩ = some (.int .i64 c.ro) := hkb.cell 6
      have cc7 : wx.cell? ⟨X, 7, none⟩ = some (.int .u8 c.op) := hkb.cell 7
      have cc8 : wx.cell? ⟨X, 8, none⟩ = some (.slice ra c.rq.length rc) := hkb.cell 8
      have cc9 : wx.cell? ⟨X, 9, none⟩ = some (.int .i64 c.cl) := hkb.cell 9
      have cc10 : wx.cell? ⟨X, 10, none⟩ = some (.int .i64 c.ky) := hkb.cell 10
      rw [Array.getD_eq_getD_getElem?] at e3
      unfold Oper.wp
      simp only [execOp, Act.eval, Array.getD_eq_getD_getElem?, e3]
      go_simp
      first | exact ⟨_, rfl, rfl, Below.refl _ _⟩ | exact ⟨_, rfl, rfl, Below.refl _ _, hj⟩ | exact ⟨_, rfl, Below.refl _ _, hj⟩ | exact ⟨_, rfl, hj⟩
    | 17, ho =>
      cases ho
      intro V aa wx hV hdep hval hj hsm hr
      have e158 : aa.tmps.getD 158 undef = .agg #[.int .u8 c.k, .int .i64 c.co, .int .i64 c.pe, .int .i64 c.tg, .int .i64 c.va, .int .i64 c.sz, .int .i64 c.ro, .int .u8 c.op, .slice ra c.rq.length rc, .int .i64 c.cl, .int .i64 c.ky] := hr 158 (by decide) (by apply Array.mem_toList_iff.1; repeat (first | exact List.Mem.head _ | apply List.Mem.tail))
      rw [Array.getD_eq_getD_getElem?] at e158
      unfold Oper.wp
      simp only [execOp, Act.eval, Array.getD_eq_getD_getElem?, e158]
      go_simp
      refine (Decides_a c ra rc wx).mono ?_
      rintro e w' ⟨rfl, hb⟩
      exact ⟨_, rfl, by show Value.bool (decC c) = .bool bd; rw [HBD.out], hb, hj.trans (hb.mono hj.size)⟩
    | 18, ho =>
      cases ho
      intro V aa wx hV hdep hval hj hsm hr
      have e157 : aa.tmps.getD 157 undef = .bool bd := hr 157 (by decide) (by apply Array.mem_toList_iff.1; repeat (first | exact List.Mem.head _ | apply List.Mem.tail))
      have e159 : aa.tmps.getD 159 undef = .bool bd := hr 159 (by decide) (by apply Array.mem_toList_iff.1; repeat (first | exact List.Mem.head _ | apply List.Mem.tail))
      rw [Array.getD_eq_getD_getElem?] at e157
      rw [Array.getD_eq_getD_getElem?] at e159
      unfold Oper.wp
      simp only [execOp, Act.eval, Array.getD_eq_getD_getElem?, e157, e159]
      go_simp
      first | exact ⟨_, rfl, rfl, Below.refl _ _⟩ | exact ⟨_, rfl, rfl, Below.refl _ _, hj⟩ | exact ⟨_, rfl, Below.refl _ _, hj⟩ | exact ⟨_, rfl, hj⟩
    | 19, ho =>
      cases ho
      intro V aa wx hV hdep hval hj hsm hr
      have e155 : aa.tmps.getD 155 undef = .bool true := hr 155 (by decide) (by apply Array.mem_toList_iff.1; repeat (first | exact List.Mem.head _ | apply List.Mem.tail))
      have e160 : aa.tmps.getD 160 undef = .bool true := hr 160 (by decide) (by apply Array.mem_toList_iff.1; repeat (first | exact List.Mem.head _ | apply List.Mem.tail))
      rw [Array.getD_eq_getD_getElem?] at e155
      rw [Array.getD_eq_getD_getElem?] at e160
      unfold Oper.wp
      simp only [execOp, Act.eval, Array.getD_eq_getD_getElem?, e155, e160]
      go_simp
      first | exact ⟨_, rfl, rfl, Below.refl _ _⟩ | exact ⟨_, rfl, rfl, Below.refl _ _, hj⟩ | exact ⟨_, rfl, Below.refl _ _, hj⟩ | exact ⟨_, rfl, hj⟩
    | 20, ho =>
      cases ho
      intro V aa wx hV hdep hval hj hsm hr
      have e161 : aa.tmps.getD 161 undef = .bool true := hr 161 (by decide) (by apply Array.mem_toList_iff.1; repeat (first | exact List.Mem.head _ | apply List.Mem.tail))
      rw [Array.getD_eq_getD_getElem?] at e161
      unfold Oper.wp
      simp only [execOp, Act.eval, Array.getD_eq_getD_getElem?, e161]
      go_simp
      first | exact ⟨_, rfl, rfl, Below.refl _ _⟩ | exact ⟨_, rfl, rfl, Below.refl _ _, hj⟩ | exact ⟨_, rfl, Below.refl _ _, hj⟩ | exact ⟨_, rfl, hj⟩
    | 21, ho =>
      cases ho
      intro V aa wx hV hdep hval hj hsm hr
      have e9 : aa.tmps.getD 9 undef = .pointer (some ⟨K, 0, none⟩) := hsm 9 (by decide)
      have hkb := KKF.out.below hj KKF.out.lt
      have cc0 : wx.cell? ⟨K, 0, none⟩ = some (.int .u8 kk.k) := hkb.cell 0
      have cc1 : wx.cell? ⟨K, 1, none⟩ = some (.int .i64 kk.co) := hkb.cell 1
      have cc2 : wx.cell? ⟨K, 2, none⟩ = some (.int .i64 kk.pe) := hkb.cell 2
      have cc3 : wx.cell? ⟨K, 3, none⟩ = some (.int .i64 kk.tg) := hkb.cell 3
      have cc4 : wx.cell? ⟨K, 4, none⟩ = some (.int .i64 kk.va) := hkb.cell 4
      have cc5 : wx.cell? ⟨K, 5, none⟩ = some (.int .i64 kk.sz) := hkb.cell 5
      have cc6 : wx.cell? ⟨K, 6, none⟩ = some (.int .i64 kk.ro) := hkb.cell 6
      have cc7 : wx.cell? ⟨K, 7, none⟩ = some (.int .u8 kk.op) := hkb.cell 7
      have cc8 : wx.cell? ⟨K, 8, none⟩ = some (.slice rk kk.rq.length ck) := hkb.cell 8
      have cc9 : wx.cell? ⟨K, 9, none⟩ = some (.int .i64 kk.cl) := hkb.cell 9
      have cc10 : wx.cell? ⟨K, 10, none⟩ = some (.int .i64 kk.ky) := hkb.cell 10
      rw [Array.getD_eq_getD_getElem?] at e9
      unfold Oper.wp
      simp only [execOp, Act.eval, Array.getD_eq_getD_getElem?, e9]
      go_simp
      first | exact ⟨_, rfl, rfl, Below.refl _ _⟩ | exact ⟨_, rfl, rfl, Below.refl _ _, hj⟩ | exact ⟨_, rfl, Below.refl _ _, hj⟩ | exact ⟨_, rfl, hj⟩
    | 22, ho =>
      cases ho
      intro V aa wx hV hdep hval hj hsm hr
      have e7 : aa.tmps.getD 7 undef = .pointer (some ⟨T, 0, none⟩) := hsm 7 (by decide)
      have hkb := KTF.out.below hj KTF.out.lt
      have cc0 : wx.cell? ⟨T, 0, none⟩ = some (.int .u8 t.k) := hkb.cell 0
      have cc1 : wx.cell? ⟨T, 1, none⟩ = some (.int .i64 t.co) := hkb.cell 1
      have cc2 : wx.cell? ⟨T, 2, none⟩ = some (.int .i64 t.pe) := hkb.cell 2
      have cc3 : wx.cell? ⟨T, 3, none⟩ = some (.int .i64 t.tg) := hkb.cell 3
      have cc4 : wx.cell? ⟨T, 4, none⟩ = some (.int .i64 t.va) := hkb.cell 4
      have cc5 : wx.cell? ⟨T, 5, none⟩ = some (.int .i64 t.sz) := hkb.cell 5
      have cc6 : wx.cell? ⟨T, 6, none⟩ = some (.int .i64 t.ro) := hkb.cell 6
      have cc7 : wx.cell? ⟨T, 7, none⟩ = some (.int .u8 t.op) := hkb.cell 7
      have cc8 : wx.cell? ⟨T, 8, none⟩ = some (.slice rt t.rq.length ct) := hkb.cell 8
      have cc9 : wx.cell? ⟨T, 9, none⟩ = some (.int .i64 t.cl) := hkb.cell 9
      have cc10 : wx.cell? ⟨T, 10, none⟩ = some (.int .i64 t.ky) := hkb.cell 10
      rw [Array.getD_eq_getD_getElem?] at e7
      unfold Oper.wp
      simp only [execOp, Act.eval, Array.getD_eq_getD_getElem?, e7]
      go_simp
      first | exact ⟨_, rfl, rfl, Below.refl _ _⟩ | exact ⟨_, rfl, rfl, Below.refl _ _, hj⟩ | exact ⟨_, rfl, Below.refl _ _, hj⟩ | exact ⟨_, rfl, hj⟩
    | 23, ho =>
      cases ho
      intro V aa wx hV hdep hval hj hsm hr
      have e163 : aa.tmps.getD 163 undef = .agg #[.int .u8 kk.k, .int .i64 kk.co, .int .i64 kk.pe, .int .i64 kk.tg, .int .i64 kk.va, .int .i64 kk.sz, .int .i64 kk.ro, .int .u8 kk.op, .slice rk kk.rq.length ck, .int .i64 kk.cl, .int .i64 kk.ky] := hr 163 (by decide) (by apply Array.mem_toList_iff.1; repeat (first | exact List.Mem.head _ | apply List.Mem.tail))
      have e164 : aa.tmps.getD 164 undef = .agg #[.int .u8 t.k, .int .i64 t.co, .int .i64 t.pe, .int .i64 t.tg, .int .i64 t.va, .int .i64 t.sz, .int .i64 t.ro, .int .u8 t.op, .slice rt t.rq.length ct, .int .i64 t.cl, .int .i64 t.ky] := hr 164 (by decide) (by apply Array.mem_toList_iff.1; repeat (first | exact List.Mem.head _ | apply List.Mem.tail))
      rw [Array.getD_eq_getD_getElem?] at e163
      rw [Array.getD_eq_getD_getElem?] at e164
      unfold Oper.wp
      simp only [execOp, Act.eval, Array.getD_eq_getD_getElem?, e163, e164]
      go_simp
      refine (Same_a kk t rk rt ck ct wx (NKF.out.below hj) (NTF.out.below hj) (by have := HKL.out; omega) (by have := HTL.out; omega)).mono ?_
      rintro e w' ⟨rfl, hb⟩
      exact ⟨_, rfl, by show Value.bool (decide (kk = t)) = .bool bk; rw [HBK.out], hb, hj.trans (hb.mono hj.size)⟩
    | 24, ho =>
      cases ho
      intro V aa wx hV hdep hval hj hsm hr
      have e9 : aa.tmps.getD 9 undef = .pointer (some ⟨K, 0, none⟩) := hsm 9 (by decide)
      have hkb := KKF.out.below hj KKF.out.lt
      have cc0 : wx.cell? ⟨K, 0, none⟩ = some (.int .u8 kk.k) := hkb.cell 0
      have cc1 : wx.cell? ⟨K, 1, none⟩ = some (.int .i64 kk.co) := hkb.cell 1
      have cc2 : wx.cell? ⟨K, 2, none⟩ = some (.int .i64 kk.pe) := hkb.cell 2
      have cc3 : wx.cell? ⟨K, 3, none⟩ = some (.int .i64 kk.tg) := hkb.cell 3
      have cc4 : wx.cell? ⟨K, 4, none⟩ = some (.int .i64 kk.va) := hkb.cell 4
      have cc5 : wx.cell? ⟨K, 5, none⟩ = some (.int .i64 kk.sz) := hkb.cell 5
      have cc6 : wx.cell? ⟨K, 6, none⟩ = some (.int .i64 kk.ro) := hkb.cell 6
      have cc7 : wx.cell? ⟨K, 7, none⟩ = some (.int .u8 kk.op) := hkb.cell 7
      have cc8 : wx.cell? ⟨K, 8, none⟩ = some (.slice rk kk.rq.length ck) := hkb.cell 8
      have cc9 : wx.cell? ⟨K, 9, none⟩ = some (.int .i64 kk.cl) := hkb.cell 9
      have cc10 : wx.cell? ⟨K, 10, none⟩ = some (.int .i64 kk.ky) := hkb.cell 10
      rw [Array.getD_eq_getD_getElem?] at e9
      unfold Oper.wp
      simp only [execOp, Act.eval, Array.getD_eq_getD_getElem?, e9]
      go_simp
      first | exact ⟨_, rfl, rfl, Below.refl _ _⟩ | exact ⟨_, rfl, rfl, Below.refl _ _, hj⟩ | exact ⟨_, rfl, Below.refl _ _, hj⟩ | exact ⟨_, rfl, hj⟩
    | 25, ho =>
      cases ho
      intro V aa wx hV hdep hval hj hsm hr
      have e7 : aa.tmps.getD 7 undef = .pointer (some ⟨T, 0, none⟩) := hsm 7 (by decide)
      have hkb := KTF.out.below hj KTF.out.lt
      have cc0 : wx.cell? ⟨T, 0, none⟩ = some (.int .u8 t.k) := hkb.cell 0
      have cc1 : wx.cell? ⟨T, 1, none⟩ = some (.int .i64 t.co) := hkb.cell 1
      have cc2 : wx.cell? ⟨T, 2, none⟩ = some (.int .i64 t.pe) := hkb.cell 2
      have cc3 : wx.cell? ⟨T, 3, none⟩ = some (.int .i64 t.tg) := hkb.cell 3
      have cc4 : wx.cell? ⟨T, 4, none⟩ = some (.int .i64 t.va) := hkb.cell 4
      have cc5 : wx.cell? ⟨T, 5, none⟩ = some (.int .i64 t.sz) := hkb.cell 5
      have cc6 : wx.cell? ⟨T, 6, none⟩ = some (.int .i64 t.ro) := hkb.cell 6
      have cc7 : wx.cell? ⟨T, 7, none⟩ = some (.int .u8 t.op) := hkb.cell 7
      have cc8 : wx.cell? ⟨T, 8, none⟩ = some (.slice rt t.rq.length ct) := hkb.cell 8
      have cc9 : wx.cell? ⟨T, 9, none⟩ = some (.int .i64 t.cl) := hkb.cell 9
      have cc10 : wx.cell? ⟨T, 10, none⟩ = some (.int .i64 t.ky) := hkb.cell 10
      rw [Array.getD_eq_getD_getElem?] at e7
      unfold Oper.wp
      simp only [execOp, Act.eval, Array.getD_eq_getD_getElem?, e7]
      go_simp
      first | exact ⟨_, rfl, rfl, Below.refl _ _⟩ | exact ⟨_, rfl, rfl, Below.refl _ _, hj⟩ | exact ⟨_, rfl, Below.refl _ _, hj⟩ | exact ⟨_, rfl, hj⟩
    | 26, ho =>
      cases ho
      intro V aa wx hV hdep hval hj hsm hr
      have e166 : aa.tmps.getD 166 undef = .agg #[.int .u8 kk.k, .int .i64 kk.co, .int .i64 kk.pe, .int .i64 kk.tg, .int .i64 kk.va, .int .i64 kk.sz, .int .i64 kk.ro, .int .u8 kk.op, .slice rk kk.rq.length ck, .int .i64 kk.cl, .int .i64 kk.ky] := hr 166 (by decide) (by apply Array.mem_toList_iff.1; repeat (first | exact List.Mem.head _ | apply List.Mem.tail))
      have e167 : aa.tmps.getD 167 undef = .agg #[.int .u8 t.k, .int .i64 t.co, .int .i64 t.pe, .int .i64 t.tg, .int .i64 t.va, .int .i64 t.sz, .int .i64 t.ro, .int .u8 t.op, .slice rt t.rq.length ct, .int .i64 t.cl, .int .i64 t.ky] := hr 167 (by decide) (by apply Array.mem_toList_iff.1; repeat (first | exact List.Mem.head _ | apply List.Mem.tail))
      rw [Array.getD_eq_getD_getElem?] at e166
      rw [Array.getD_eq_getD_getElem?] at e167
      unfold Oper.wp
      simp only [execOp, Act.eval, Array.getD_eq_getD_getElem?, e166, e167]
      go_simp
      refine (Same_b kk t rk rt ck ct wx (NKF.out.below hj) (NTF.out.below hj) (by have := HKL.out; omega) (by have := HTL.out; omega)).mono ?_
      rintro e w' ⟨rfl, hb⟩
      exact ⟨_, rfl, by show Value.bool (decide (kk = t)) = .bool bk; rw [HBK.out], hb, hj.trans (hb.mono hj.size)⟩
    | 27, ho =>
      cases ho
      intro V aa wx hV hdep hval hj hsm hr
      have e165 : aa.tmps.getD 165 undef = .bool bk := hr 165 (by decide) (by apply Array.mem_toList_iff.1; repeat (first | exact List.Mem.head _ | apply List.Mem.tail))
      have e168 : aa.tmps.getD 168 undef = .bool bk := hr 168 (by decide) (by apply Array.mem_toList_iff.1; repeat (first | exact List.Mem.head _ | apply List.Mem.tail))
      rw [Array.getD_eq_getD_getElem?] at e165
      rw [Array.getD_eq_getD_getElem?] at e168
      unfold Oper.wp
      simp only [execOp, Act.eval, Array.getD_eq_getD_getElem?, e165, e168]
      go_simp
      first | exact ⟨_, rfl, rfl, Below.refl _ _⟩ | exact ⟨_, rfl, rfl, Below.refl _ _, hj⟩ | (cases bk <;> first | exact ⟨_, rfl, rfl, Below.refl _ _⟩ | exact ⟨_, rfl, rfl, Below.refl _ _, hj⟩)
    | 28, ho =>
      cases ho
      intro V aa wx hV hdep hval hj hsm hr
      have e162 : aa.tmps.getD 162 undef = .bool true := hr 162 (by decide) (by apply Array.mem_toList_iff.1; repeat (first | exact List.Mem.head _ | apply List.Mem.tail))
      have e169 : aa.tmps.getD 169 undef = .bool true := hr 169 (by decide) (by apply Array.mem_toList_iff.1; repeat (first | exact List.Mem.head _ | apply List.Mem.tail))
      rw [Array.getD_eq_getD_getElem?] at e162
      rw [Array.getD_eq_getD_getElem?] at e169
      unfold Oper.wp
      simp only [execOp, Act.eval, Array.getD_eq_getD_getElem?, e162, e169]
      go_simp
      first | exact ⟨_, rfl, rfl, Below.refl _ _⟩ | exact ⟨_, rfl, rfl, Below.refl _ _, hj⟩ | exact ⟨_, rfl, Below.refl _ _, hj⟩ | exact ⟨_, rfl, hj⟩
    | 29, ho =>
      cases ho
      intro V aa wx hV hdep hval hj hsm hr
      have e170 : aa.tmps.getD 170 undef = .bool true := hr 170 (by decide) (by apply Array.mem_toList_iff.1; repeat (first | exact List.Mem.head _ | apply List.Mem.tail))
      rw [Array.getD_eq_getD_getElem?] at e170
      unfold Oper.wp
      simp only [execOp, Act.eval, Array.getD_eq_getD_getElem?, e170]
      go_simp
      first | exact ⟨_, rfl, rfl, Below.refl _ _⟩ | exact ⟨_, rfl, rfl, Below.refl _ _, hj⟩ | exact ⟨_, rfl, Below.refl _ _, hj⟩ | exact ⟨_, rfl, hj⟩
    | _ + 30, ho => cases ho
  case fin =>
    intro ff V wz hV hj hr
    have e6 : ff 6 = .bool true := hr 6 (by decide)
    have HZF := hide (HBF.out.1.trans (hj.mono HBF.out.2))
    clear hV hr hj
    simp only [putAll, slotsOf, List.filterMap_cons, List.filterMap_nil, List.foldl_cons, List.foldl_nil, Act.put, e6]
    simp only [List.setIfInBounds_toArray, List.set_cons_succ, List.set_cons_zero]
    go_wp2_with fail
    go_ret
    exact ⟨rfl, HZF.out⟩
end Go.Proofs.YthcoelkpiflfeaaDoor.CallTrimW
