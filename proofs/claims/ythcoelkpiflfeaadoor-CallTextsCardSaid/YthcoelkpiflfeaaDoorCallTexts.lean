/- The walk of the statement CallTexts. -/
import Derived.Test.YthcoelkpiflfeaaDoorRows
import Derived.Test.YthcoelkpiflfeaaDoorCtL
import Derived.Test.YthcoelkpiflfeaaDoorCtO
import Derived.Test.YthcoelkpiflfeaaDoorCtIn
import Derived.Test.YthcoelkpiflfeaaDoorCalG
import Derived.Test.YthcoelkpiflfeaaDoorCtEnv
namespace Go.Proofs.YthcoelkpiflfeaaDoor.CallTextsW
open Go Go.RowKit Go.Lib Go.Proofs.YthcoelkpiflfeaaDoor Go.Proofs.YthcoelkpiflfeaaDoor.Grp Go.Proofs.YthcoelkpiflfeaaDoor.Cal
set_option linter.unusedVariables false
set_option linter.unusedSimpArgs false
theorem text_val (c : Cl) : ∃ (tb : ByteArray) (ec : Int), ∀ e, TextIs c e → e = .returned (.tuple #[.string tb, .int .i64 ec]) := by
  by_cases h : hasText c
  · exact ⟨bytes (textOf c), 0, fun e he => he.elim (fun x => x.2) (fun x => absurd h x.1)⟩
  · exact ⟨⟨#[]⟩, 160, fun e he => he.elim (fun x => absurd x.1 h) (fun x => x.2)⟩
/-- What a text is parsed as: the call, the error. -/
def PV (s : List UInt8) (c : Cl) (pe : Int) : Prop := (ParsedAs s none ∧ c = zeroC ∧ pe = 160) ∨ (ParsedAs s (some c) ∧ pe = 0)
theorem PV.det {s : List UInt8} {c c' : Cl} {p p' : Int} (h : PV s c p) (h' : PV s c' p') : c = c' ∧ p = p' := by
  rcases h with ⟨h, rfl, rfl⟩ | ⟨h, rfl⟩ <;> rcases h' with ⟨h', rfl, rfl⟩ | ⟨h', rfl⟩
  · exact ⟨rfl, rfl⟩
  · have := h.det h'; cases this
  · have := h.det h'; cases this
  · have := h.det h'; cases this; exact ⟨rfl, rfl⟩
theorem parse_val {s : List UInt8} {w w' : World} {e : Ending} (h : ParseIs s w e w') : ∃ (c : Cl) (rb : Option Addr) (rd : Nat) (pe : Int), e = .returned (.tuple #[.agg (c.A rb rd), .int .i64 pe]) ∧ NRow w' rb c.rq ∧ c.rq.length ≤ s.length + 1 ∧ PV s c pe ∧ Below w.heap.size w w' := by
  rcases h with ⟨⟨h, rfl⟩ | ⟨c, rb, rd, h, _, hl, rfl, ho⟩, hb⟩
  · exact ⟨zeroC, none, 0, 160, rfl, fun h => absurd h (by decide), Nat.zero_le _, .inl ⟨h, rfl, rfl⟩, hb⟩
  · exact ⟨c, rb, rd, 0, rfl, own_row ho rfl, hl, .inr ⟨h, rfl⟩, hb⟩
set_option maxRecDepth 100000 in
set_option maxHeartbeats 32000000 in
theorem walk {H : Type} {enc : TypeId × Value → H} {base : Nat} (W : World) (HEN : Env W) (v0 : Value) (d0 : DataW H) (p0 : List MemPlace) (o0 : Value.okWide Tryd.prog W .any base 24 v0) (r0 : DataW.Trod enc Tryd.prog W 0 (fun _ => true) true 24 v0 d0 p0) (a1 : ByteArray) (w1 : a1.size ≤ maxLen) :
    Calls Tryd.prog 3 #[v0, .string a1] W fun e w' => e = .returned (.bool true) ∧ Below W.heap.size W w' := by
  obtain ⟨c, ra, rc, rfl, hra, hok, hrc⟩ := call_in o0 r0 (fun _ => rfl)
  obtain ⟨s, rfl⟩ : ∃ s, a1 = bytes s := ⟨a1.data.toList, rfl⟩
  clear o0 r0 w1
  unfold Cl.A clA
  have b2 := (Below.refl W.heap.size W).alloc (Nat.le_refl _) (.cells #[.int .u8 c.k, .int .i64 c.co, .int .i64 c.pe, .int .i64 c.tg, .int .i64 c.va, .int .i64 c.sz, .int .i64 c.ro, .int .u8 c.op, .slice ra c.rq.length rc, .int .i64 c.cl, .int .i64 c.ky] 24)
  have k0 := Blk.new W 24 #[.int .u8 c.k, .int .i64 c.co, .int .i64 c.pe, .int .i64 c.tg, .int .i64 c.va, .int .i64 c.sz, .int .i64 c.ro, .int .u8 c.op, .slice ra c.rq.length rc, .int .i64 c.cl, .int .i64 c.ky]
  go_enter Tryd.func3, Tryd.ntmps3
  go_upto_region 1 with (fail)
  obtain ⟨w2, hw2⟩ : ∃ y, W.alloc (.cells #[.int .u8 c.k, .int .i64 c.co, .int .i64 c.pe, .int .i64 c.tg, .int .i64 c.va, .int .i64 c.sz, .int .i64 c.ro, .int .u8 c.op, .slice ra c.rq.length rc, .int .i64 c.cl, .int .i64 c.ky] 24) = y := ⟨_, rfl⟩
  rw [hw2] at k0 b2 ⊢
  have HEB := hide (fun (w' : World) (hb : Below W.heap.size W w') => HEN.below hb (Nat.le_refl _))
  have HRA := hide (fun (w' : World) (hb : Below W.heap.size W w') => hra.below hb)
  have HB2 := hide (And.intro b2 b2.size)
  obtain ⟨X, hX⟩ : ∃ X, W.heap.size = X := ⟨_, rfl⟩
  rw [hX] at k0
  rw [hX]
  have KC2 := hide k0
  have OK := hide hok
  have hsz : (bytes s).size = s.length := bytes_size s
  have HSZ := hide hsz
  clear b2 k0 hw2 hra hok hrc HEN hX hsz
  have q0 : w2.cell? ⟨X, 0, none⟩ = some (.int .u8 c.k) := KC2.out.cell 0
  have q1 : w2.cell? ⟨X, 1, none⟩ = some (.int .i64 c.co) := KC2.out.cell 1
  have q2 : w2.cell? ⟨X, 2, none⟩ = some (.int .i64 c.pe) := KC2.out.cell 2
  have q3 : w2.cell? ⟨X, 3, none⟩ = some (.int .i64 c.tg) := KC2.out.cell 3
  have q4 : w2.cell? ⟨X, 4, none⟩ = some (.int .i64 c.va) := KC2.out.cell 4
  have q5 : w2.cell? ⟨X, 5, none⟩ = some (.int .i64 c.sz) := KC2.out.cell 5
  have q6 : w2.cell? ⟨X, 6, none⟩ = some (.int .i64 c.ro) := KC2.out.cell 6
  have q7 : w2.cell? ⟨X, 7, none⟩ = some (.int .u8 c.op) := KC2.out.cell 7
  have q8 : w2.cell? ⟨X, 8, none⟩ = some (.slice ra c.rq.length rc) := KC2.out.cell 8
  have q9 : w2.cell? ⟨X, 9, none⟩ = some (.int .i64 c.cl) := KC2.out.cell 9
  have q10 : w2.cell? ⟨X, 10, none⟩ = some (.int .i64 c.ky) := KC2.out.cell 10
  by_cases g1 : 60 < c.rq.length
  · have g1I : (60 : Int) < (c.rq.length : Int) := by omega
    go_wp2_with fail
    go_ret
    exact ⟨rfl, HB2.out.1⟩
  have g1I : ¬ (60 : Int) < (c.rq.length : Int) := by omega
  by_cases g2 : 300 < s.length
  · have g2I : (300 : Int) < ((bytes s).size : Int) := by have := HSZ.out; omega
    go_wp2_with fail
    go_ret
    exact ⟨rfl, HB2.out.1⟩
  have g2I : ¬ (300 : Int) < ((bytes s).size : Int) := by have := HSZ.out; omega
  have HG1 := hide (show c.rq.length ≤ 60 by omega)
  have HG2 := hide (show s.length ≤ 300 by omega)
  obtain ⟨tb, ec, hte⟩ := text_val c
  have HTE := hide hte
  have TA := hide (Text_c c ra rc w2 (HRA.out w2 HB2.out.1) (by omega) OK.out (HEB.out w2 HB2.out.1).pow (HEB.out w2 HB2.out.1).red)
  clear g1 g2 hte
  go_wp2_with fail
  refine TA.out.mono ?_
  rintro e w3 ⟨ht, hb3⟩
  obtain rfl := HTE.out e ht
  have HB3 := hide (And.intro (HB2.out.1.trans (hb3.mono HB2.out.2)) (Nat.le_trans HB2.out.2 hb3.size))
  have KC3 := hide (KC2.out.below hb3 KC2.out.lt)
  have TB := hide (Text_b c ra rc w3 (HRA.out w3 HB3.out.1) (by have := HG1.out; omega) OK.out)
  clear ht hb3 TA HB2 KC2 g1I g2I q0 q1 q2 q3 q4 q5 q6 q7 q8 q9 q10
  have q0 : w3.cell? ⟨X, 0, none⟩ = some (.int .u8 c.k) := KC3.out.cell 0
  have q1 : w3.cell? ⟨X, 1, none⟩ = some (.int .i64 c.co) := KC3.out.cell 1
  have q2 : w3.cell? ⟨X, 2, none⟩ = some (.int .i64 c.pe) := KC3.out.cell 2
  have q3 : w3.cell? ⟨X, 3, none⟩ = some (.int .i64 c.tg) := KC3.out.cell 3
  have q4 : w3.cell? ⟨X, 4, none⟩ = some (.int .i64 c.va) := KC3.out.cell 4
  have q5 : w3.cell? ⟨X, 5, none⟩ = some (.int .i64 c.sz) := KC3.out.cell 5
  have q6 : w3.cell? ⟨X, 6, none⟩ = some (.int .i64 c.ro) := KC3.out.cell 6
  have q7 : w3.cell? ⟨X, 7, none⟩ = some (.int .u8 c.op) := KC3.out.cell 7
  have q8 : w3.cell? ⟨X, 8, none⟩ = some (.slice ra c.rq.length rc) := KC3.out.cell 8
  have q9 : w3.cell? ⟨X, 9, none⟩ = some (.int .i64 c.cl) := KC3.out.cell 9
  have q10 : w3.cell? ⟨X, 10, none⟩ = some (.int .i64 c.ky) := KC3.out.cell 10
  go_wp2_with fail
  refine TB.out.mono ?_
  rintro e w4 ⟨ht, hb4⟩
  obtain rfl := HTE.out e ht
  have HB4 := hide (And.intro (HB3.out.1.trans (hb4.mono HB3.out.2)) (Nat.le_trans HB3.out.2 hb4.size))
  have PA := hide (Parse_c s w4 (HEB.out w4 HB4.out.1) (by have := HG2.out; omega))
  clear ht hb4 TB HB3 KC3 q0 q1 q2 q3 q4 q5 q6 q7 q8 q9 q10
  go_wp2_with fail
  refine PA.out.mono ?_
  rintro e w5 hp
  obtain ⟨a, rb, rd, pe, rfl, hn5, hl5, hv5, hb5⟩ := parse_val hp
  have HB5 := hide (And.intro (HB4.out.1.trans (hb5.mono HB4.out.2)) (Nat.le_trans HB4.out.2 hb5.size))
  have N5 := hide hn5
  have HL5 := hide hl5
  have HV5 := hide hv5
  unfold Cl.A clA
  clear hp hn5 hl5 hv5 hb5 PA HB4
  have ba := (Below.refl w5.heap.size w5).alloc (Nat.le_refl _) (.cells #[.int .u8 a.k, .int .i64 a.co, .int .i64 a.pe, .int .i64 a.tg, .int .i64 a.va, .int .i64 a.sz, .int .i64 a.ro, .int .u8 a.op, .slice rb a.rq.length rd, .int .i64 a.cl, .int .i64 a.ky] 24)
  have kp := Blk.new w5 24 #[.int .u8 a.k, .int .i64 a.co, .int .i64 a.pe, .int .i64 a.tg, .int .i64 a.va, .int .i64 a.sz, .int .i64 a.ro, .int .u8 a.op, .slice rb a.rq.length rd, .int .i64 a.cl, .int .i64 a.ky]
  obtain ⟨w6, hww6⟩ : ∃ y, w5.alloc (.cells #[.int .u8 a.k, .int .i64 a.co, .int .i64 a.pe, .int .i64 a.tg, .int .i64 a.va, .int .i64 a.sz, .int .i64 a.ro, .int .u8 a.op, .slice rb a.rq.length rd, .int .i64 a.cl, .int .i64 a.ky] 24) = y := ⟨_, rfl⟩
  obtain ⟨Y, hnY⟩ : ∃ T, w5.heap.size = T := ⟨_, rfl⟩
  rw [hww6] at ba kp
  rw [hnY] at kp
  have HWw6 := hide hww6
  have HNY := hide hnY
  have KY := hide kp
  have HAY := hide ba
  clear ba kp hww6 hnY
  have HB6 := hide (And.intro (HB5.out.1.trans (HAY.out.mono HB5.out.2)) (Nat.le_trans HB5.out.2 HAY.out.size))
  have N6 := hide (N5.out.below HAY.out)
  have PB := hide (Parse_b s w6 (by have := HG2.out; omega))
  go_upto_region 6 with (fail)
  rw [HWw6.out, HNY.out]
  clear HWw6 HNY HAY HB5 N5
  go_wp2_with fail
  refine PB.out.mono ?_
  rintro e w7 hp
  obtain ⟨a', rb2, rd2, pe', rfl, hn7, hl7, hv7, hb7⟩ := parse_val hp
  obtain ⟨rfl, rfl⟩ := HV5.out.det hv7
  have HB7 := hide (And.intro (HB6.out.1.trans (hb7.mono HB6.out.2)) (Nat.le_trans HB6.out.2 hb7.size))
  have KY7 := hide (KY.out.below hb7 KY.out.lt)
  have N7 := hide (N6.out.below hb7)
  have M7 := hide hn7
  unfold Cl.A clA
  clear hp hn7 hl7 hv7 hb7 PB HB6 N6 KY
  have ba := (Below.refl w7.heap.size w7).alloc (Nat.le_refl _) (.cells #[.int .u8 a.k, .int .i64 a.co, .int .i64 a.pe, .int .i64 a.tg, .int .i64 a.va, .int .i64 a.sz, .int .i64 a.ro, .int .u8 a.op, .slice rb2 a.rq.length rd2, .int .i64 a.cl, .int .i64 a.ky] 24)
  have kp := Blk.new w7 24 #[.int .u8 a.k, .int .i64 a.co, .int .i64 a.pe, .int .i64 a.tg, .int .i64 a.va, .int .i64 a.sz, .int .i64 a.ro, .int .u8 a.op, .slice rb2 a.rq.length rd2, .int .i64 a.cl, .int .i64 a.ky]
  obtain ⟨w8, hww8⟩ : ∃ y, w7.alloc (.cells #[.int .u8 a.k, .int .i64 a.co, .int .i64 a.pe, .int .i64 a.tg, .int .i64 a.va, .int .i64 a.sz, .int .i64 a.ro, .int .u8 a.op, .slice rb2 a.rq.length rd2, .int .i64 a.cl, .int .i64 a.ky] 24) = y := ⟨_, rfl⟩
  obtain ⟨Z, hnZ⟩ : ∃ T, w7.heap.size = T := ⟨_, rfl⟩
  rw [hww8] at ba kp
  rw [hnZ] at kp
  have HWw8 := hide hww8
  have HNZ := hide hnZ
  have KZ := hide kp
  have HAZ := hide ba
  clear ba kp hww8 hnZ
  have HB8 := hide (And.intro (HB7.out.1.trans (HAZ.out.mono HB7.out.2)) (Nat.le_trans HB7.out.2 HAZ.out.size))
  have KY8 := hide (KY7.out.below HAZ.out KY7.out.lt)
  have SB := hide (Same_b a a rb rb2 rd rd2 w8 (N7.out.below HAZ.out) (M7.out.below HAZ.out) (by have := HL5.out; have := HG2.out; omega) (by have := HL5.out; have := HG2.out; omega))
  rw [decide_eq_true (rfl : a = a)] at SB
  unfold Cl.A clA at SB
  go_upto_region 7 with (fail)
  rw [HWw8.out, HNZ.out]
  clear HWw8 HNZ HAZ HB7 N7 M7 KY7
  have y0 : w8.cell? ⟨Y, 0, none⟩ = some (.int .u8 a.k) := KY8.out.cell 0
  have y1 : w8.cell? ⟨Y, 1, none⟩ = some (.int .i64 a.co) := KY8.out.cell 1
  have y2 : w8.cell? ⟨Y, 2, none⟩ = some (.int .i64 a.pe) := KY8.out.cell 2
  have y3 : w8.cell? ⟨Y, 3, none⟩ = some (.int .i64 a.tg) := KY8.out.cell 3
  have y4 : w8.cell? ⟨Y, 4, none⟩ = some (.int .i64 a.va) := KY8.out.cell 4
  have y5 : w8.cell? ⟨Y, 5, none⟩ = some (.int .i64 a.sz) := KY8.out.cell 5
  have y6 : w8.cell? ⟨Y, 6, none⟩ = some (.int .i64 a.ro) := KY8.out.cell 6
  have y7 : w8.cell? ⟨Y, 7, none⟩ = some (.int .u8 a.op) := KY8.out.cell 7
  have y8 : w8.cell? ⟨Y, 8, none⟩ = some (.slice rb a.rq.length rd) := KY8.out.cell 8
  have y9 : w8.cell? ⟨Y, 9, none⟩ = some (.int .i64 a.cl) := KY8.out.cell 9
  have y10 : w8.cell? ⟨Y, 10, none⟩ = some (.int .i64 a.ky) := KY8.out.cell 10
  have z0 : w8.cell? ⟨Z, 0, none⟩ = some (.int .u8 a.k) := KZ.out.cell 0
  have z1 : w8.cell? ⟨Z, 1, none⟩ = some (.int .i64 a.co) := KZ.out.cell 1
  have z2 : w8.cell? ⟨Z, 2, none⟩ = some (.int .i64 a.pe) := KZ.out.cell 2
  have z3 : w8.cell? ⟨Z, 3, none⟩ = some (.int .i64 a.tg) := KZ.out.cell 3
  have z4 : w8.cell? ⟨Z, 4, none⟩ = some (.int .i64 a.va) := KZ.out.cell 4
  have z5 : w8.cell? ⟨Z, 5, none⟩ = some (.int .i64 a.sz) := KZ.out.cell 5
  have z6 : w8.cell? ⟨Z, 6, none⟩ = some (.int .i64 a.ro) := KZ.out.cell 6
  have z7 : w8.cell? ⟨Z, 7, none⟩ = some (.int .u8 a.op) := KZ.out.cell 7
  have z8 : w8.cell? ⟨Z, 8, none⟩ = some (.slice rb2 a.rq.length rd2) := KZ.out.cell 8
  have z9 : w8.cell? ⟨Z, 9, none⟩ = some (.int .i64 a.cl) := KZ.out.cell 9
  have z10 : w8.cell? ⟨Z, 10, none⟩ = some (.int .i64 a.ky) := KZ.out.cell 10
  go_wp2_with fail
  refine SB.out.mono ?_
  rintro e w9 ⟨rfl, hb9⟩
  have HB9 := hide (HB8.out.1.trans (hb9.mono HB8.out.2))
  clear hb9 y0 z0 y1 z1 y2 z2 y3 z3 y4 z4 y5 z5 y6 z6 y7 z7 y8 z8 y9 z9 y10 z10
  go_wp2_with fail
  go_ret
  exact ⟨rfl, HB9.out⟩
end Go.Proofs.YthcoelkpiflfeaaDoor.CallTextsW
