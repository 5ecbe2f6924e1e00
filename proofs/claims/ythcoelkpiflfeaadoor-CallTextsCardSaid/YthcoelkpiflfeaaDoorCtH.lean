/- A text parsed as a call: the program. -/
import Derived.Test.YthcoelkpiflfeaaDoorRows
import Derived.Test.YthcoelkpiflfeaaDoorCtG
namespace Go.Proofs.YthcoelkpiflfeaaDoor
open Go Go.RowKit Go.Lib Go.Proofs.YthcoelkpiflfeaaDoor.Grp
set_option linter.unusedVariables false
set_option linter.unusedSimpArgs false
namespace Cal
/-- What Parse answers. -/
def ParseIs (s : List UInt8) (w : World) (e : Ending) (w' : World) : Prop :=
  ((ParsedAs s none ∧ e = .returned (.tuple #[.agg (zeroC.A none 0), .int .i64 160])) ∨ (∃ (c : Cl) (rb : Option Addr) (rd : Nat), ParsedAs s (some c) ∧ c.ok ∧ c.rq.length ≤ s.length + 1 ∧ e = .returned (.tuple #[.agg (c.A rb rd), .int .i64 0]) ∧ w'.ownsRow w.heap.size 3 1 (.slice rb c.rq.length rd) c.rq.length (i64s c.rq))) ∧ Below w.heap.size w w'
theorem own_wide {w : World} {B B' n : Nat} {e : TypeId} {v : Value} {xs : List Value} (h : w.ownsRow B e 1 v n xs) (hb : B' ≤ B) : w.ownsRow B' e 1 v n xs := by
  refine ⟨h.1, h.2.imp id ?_⟩
  rintro ⟨g, cap, cur, e, hge, r⟩
  exact ⟨g, cap, cur, e, Nat.le_trans hb hge, r⟩
set_option maxRecDepth 100000 in
set_option maxHeartbeats 16000000 in
theorem Parse_c (s : List UInt8) (w : World) (h : Env w) (hs : s.length ≤ 900) :
    Calls Tryd.prog 9 #[.string (bytes s)] w (ParseIs s w) := by
  have hb1 := (Below.refl w.heap.size w).alloc (Nat.le_refl _) (.cells #[.int .u8 0, .int .i64 0, .int .i64 0, .int .i64 0, .int .i64 0, .int .i64 0, .int .i64 0, .int .u8 0, .slice none 0 0, .int .i64 0, .int .i64 0] 24)
  have k1 := Blk.new w 24 #[.int .u8 0, .int .i64 0, .int .i64 0, .int .i64 0, .int .i64 0, .int .i64 0, .int .i64 0, .int .u8 0, .slice none 0 0, .int .i64 0, .int .i64 0]
  have HE := hide h
  go_enter Tryd.func9, Tryd.ntmps9
  go_upto_region 1 with (fail)
  obtain ⟨w1, hw1⟩ : ∃ z, w.alloc (.cells #[.int .u8 0, .int .i64 0, .int .i64 0, .int .i64 0, .int .i64 0, .int .i64 0, .int .i64 0, .int .u8 0, .slice none 0 0, .int .i64 0, .int .i64 0] 24) = z := ⟨_, rfl⟩
  rw [hw1] at hb1 k1 ⊢
  obtain ⟨X, hX⟩ : ∃ X, w.heap.size = X := ⟨_, rfl⟩
  rw [hX] at k1 hb1 ⊢
  have HX := hide hX
  have HEB := hide (fun (w' : World) (h : Below X w w') => HE.out.below h (by rw [hX]; exact Nat.le_refl _))
  have HB1 := hide (And.intro hb1 (show X ≤ w1.heap.size by have := k1.lt; omega))
  have X1 := hide k1.lt
  have K1 := hide k1
  have RD := hide (read_c s w1 (HEB.out w1 hb1) (by omega))
  have HS := hide hs
  clear hb1 k1 hw1 hX h hs HE
  go_wp2_with fail
  refine RD.out.mono ?_
  rintro e w2 ⟨hr, hb2⟩
  have HB2 := hide (And.intro (HB1.out.1.trans (hb2.mono HB1.out.2)) (Nat.le_trans HB1.out.2 hb2.size))
  have K2 := hide (K1.out.below hb2 K1.out.lt)
  have HW2 := hide hb2.size
  clear hb2 HB1 K1 RD
  rcases hr with ⟨hn, rfl⟩ | ⟨c, rb, rd, hc, rfl, hown⟩
  · have WHY := hide (parsed_no hn)
    clear hn
    have ba := (Below.refl w2.heap.size w2).alloc (Nat.le_refl _) (.cells #[.int .u8 0, .int .i64 0, .int .i64 0, .int .i64 0, .int .i64 0, .int .i64 0, .int .i64 0, .int .u8 0, .slice none 0 0, .int .i64 0, .int .i64 0] 24)
    have kz := K2.out.below ba K2.out.lt
    have bz := HB2.out.1.trans (ba.mono HB2.out.2)
    obtain ⟨w3, hw3⟩ : ∃ z, w2.alloc (.cells #[.int .u8 0, .int .i64 0, .int .i64 0, .int .i64 0, .int .i64 0, .int .i64 0, .int .i64 0, .int .u8 0, .slice none 0 0, .int .i64 0, .int .i64 0] 24) = z := ⟨_, rfl⟩
    rw [hw3] at kz bz
    have HW3 := hide hw3
    clear ba hw3
    unfold Cl.A clA zeroC
    dsimp only [List.length_nil]
    go_upto_region 2 with (fail)
    rw [HW3.out]
    have z0 : w3.cell? ⟨X, 0, none⟩ = some (.int .u8 0) := kz.cell 0
    have z1 : w3.cell? ⟨X, 1, none⟩ = some (.int .i64 0) := kz.cell 1
    have z2 : w3.cell? ⟨X, 2, none⟩ = some (.int .i64 0) := kz.cell 2
    have z3 : w3.cell? ⟨X, 3, none⟩ = some (.int .i64 0) := kz.cell 3
    have z4 : w3.cell? ⟨X, 4, none⟩ = some (.int .i64 0) := kz.cell 4
    have z5 : w3.cell? ⟨X, 5, none⟩ = some (.int .i64 0) := kz.cell 5
    have z6 : w3.cell? ⟨X, 6, none⟩ = some (.int .i64 0) := kz.cell 6
    have z7 : w3.cell? ⟨X, 7, none⟩ = some (.int .u8 0) := kz.cell 7
    have z8 : w3.cell? ⟨X, 8, none⟩ = some (.slice none 0 0) := kz.cell 8
    have z9 : w3.cell? ⟨X, 9, none⟩ = some (.int .i64 0) := kz.cell 9
    have z10 : w3.cell? ⟨X, 10, none⟩ = some (.int .i64 0) := kz.cell 10
    have f0 := kz.frozen 0
    have f1 := kz.frozen 1
    have f2 := kz.frozen 2
    have f3 := kz.frozen 3
    have f4 := kz.frozen 4
    have f5 := kz.frozen 5
    have f6 := kz.frozen 6
    have f7 := kz.frozen 7
    have f8 := kz.frozen 8
    have f9 := kz.frozen 9
    have f10 := kz.frozen 10
    have k9 := put11 kz (.int .u8 0) (.int .i64 0) (.int .i64 0) (.int .i64 0) (.int .i64 0) (.int .i64 0) (.int .i64 0) (.int .u8 0) (.slice none 0 0) (.int .i64 0) (.int .i64 0)
    have b9 := bel11 bz (.int .u8 0) (.int .i64 0) (.int .i64 0) (.int .i64 0) (.int .i64 0) (.int .i64 0) (.int .i64 0) (.int .u8 0) (.slice none 0 0) (.int .i64 0) (.int .i64 0)
    obtain ⟨w9, hw9⟩ : ∃ z, (((((((((((w3.setCell ⟨X, 0, none⟩ (.int .u8 0)).setCell ⟨X, 1, none⟩ (.int .i64 0)).setCell ⟨X, 2, none⟩ (.int .i64 0)).setCell ⟨X, 3, none⟩ (.int .i64 0)).setCell ⟨X, 4, none⟩ (.int .i64 0)).setCell ⟨X, 5, none⟩ (.int .i64 0)).setCell ⟨X, 6, none⟩ (.int .i64 0)).setCell ⟨X, 7, none⟩ (.int .u8 0)).setCell ⟨X, 8, none⟩ (.slice none 0 0)).setCell ⟨X, 9, none⟩ (.int .i64 0)).setCell ⟨X, 10, none⟩ (.int .i64 0)) = z := ⟨_, rfl⟩
    rw [hw9] at k9 b9
    have u0 : w9.cell? ⟨X, 0, none⟩ = some (.int .u8 0) := k9.cell 0
    have u1 : w9.cell? ⟨X, 1, none⟩ = some (.int .i64 0) := k9.cell 1
    have u2 : w9.cell? ⟨X, 2, none⟩ = some (.int .i64 0) := k9.cell 2
    have u3 : w9.cell? ⟨X, 3, none⟩ = some (.int .i64 0) := k9.cell 3
    have u4 : w9.cell? ⟨X, 4, none⟩ = some (.int .i64 0) := k9.cell 4
    have u5 : w9.cell? ⟨X, 5, none⟩ = some (.int .i64 0) := k9.cell 5
    have u6 : w9.cell? ⟨X, 6, none⟩ = some (.int .i64 0) := k9.cell 6
    have u7 : w9.cell? ⟨X, 7, none⟩ = some (.int .u8 0) := k9.cell 7
    have u8 : w9.cell? ⟨X, 8, none⟩ = some (.slice none 0 0) := k9.cell 8
    have u9 : w9.cell? ⟨X, 9, none⟩ = some (.int .i64 0) := k9.cell 9
    have u10 : w9.cell? ⟨X, 10, none⟩ = some (.int .i64 0) := k9.cell 10
    have HB9 := hide b9
    clear b9 k9
    go_wp2_with fail
    exact bodyPost_ret (v := .tuple #[.agg #[.int .u8 0, .int .i64 0, .int .i64 0, .int .i64 0, .int .i64 0, .int .i64 0, .int .i64 0, .int .u8 0, .slice none 0 0, .int .i64 0, .int .i64 0], .int .i64 160]) (by simp [results, Tryd.results9, go_sem, u0, u1, u2, u3, u4, u5, u6, u7, u8, u9, u10]) rfl ⟨.inl ⟨WHY.out, rfl⟩, by rw [HX.out]; exact HB9.out⟩
  obtain ⟨hok, hrl⟩ := read_ok hc
  have ba := (Below.refl w2.heap.size w2).alloc (Nat.le_refl _) (.cells #[.int .u8 c.k, .int .i64 c.co, .int .i64 c.pe, .int .i64 c.tg, .int .i64 c.va, .int .i64 c.sz, .int .i64 c.ro, .int .u8 c.op, .slice rb c.rq.length rd, .int .i64 c.cl, .int .i64 c.ky] 24)
  have k3 := K2.out.below ba K2.out.lt
  have y3 := Blk.new w2 24 #[.int .u8 c.k, .int .i64 c.co, .int .i64 c.pe, .int .i64 c.tg, .int .i64 c.va, .int .i64 c.sz, .int .i64 c.ro, .int .u8 c.op, .slice rb c.rq.length rd, .int .i64 c.cl, .int .i64 c.ky]
  have b3 := HB2.out.1.trans (ba.mono HB2.out.2)
  have o3 := own_belowR hown ba
  have e3 := HEB.out _ b3
  have x3 := Nat.le_trans HB2.out.2 ba.size
  unfold Cl.A clA
  obtain ⟨w3, hw3⟩ : ∃ z, w2.alloc (.cells #[.int .u8 c.k, .int .i64 c.co, .int .i64 c.pe, .int .i64 c.tg, .int .i64 c.va, .int .i64 c.sz, .int .i64 c.ro, .int .u8 c.op, .slice rb c.rq.length rd, .int .i64 c.cl, .int .i64 c.ky] 24) = z := ⟨_, rfl⟩
  rw [hw3] at k3 y3 b3 o3 e3 x3
  have TX := hide (Text_c c rb rd w3 (own_row o3 rfl) (by have := HS.out; omega) hok e3.pow e3.red)
  have K3 := hide k3
  have B3 := hide (And.intro b3 x3)
  have O3 := hide o3
  have HC := hide hc
  have OK := hide hok
  have RL := hide hrl
  have HY3 := hide y3
  have HW3 := hide hw3
  clear hw3
  go_upto_region 2 with (fail)
  rw [HW3.out]
  obtain ⟨Y, hY⟩ : ∃ Y, w2.heap.size = Y := ⟨_, rfl⟩
  rw [hY] at HY3
  rw [hY]
  have q0 : w3.cell? ⟨Y, 0, none⟩ = some (.int .u8 c.k) := HY3.out.cell 0
  have q1 : w3.cell? ⟨Y, 1, none⟩ = some (.int .i64 c.co) := HY3.out.cell 1
  have q2 : w3.cell? ⟨Y, 2, none⟩ = some (.int .i64 c.pe) := HY3.out.cell 2
  have q3 : w3.cell? ⟨Y, 3, none⟩ = some (.int .i64 c.tg) := HY3.out.cell 3
  have q4 : w3.cell? ⟨Y, 4, none⟩ = some (.int .i64 c.va) := HY3.out.cell 4
  have q5 : w3.cell? ⟨Y, 5, none⟩ = some (.int .i64 c.sz) := HY3.out.cell 5
  have q6 : w3.cell? ⟨Y, 6, none⟩ = some (.int .i64 c.ro) := HY3.out.cell 6
  have q7 : w3.cell? ⟨Y, 7, none⟩ = some (.int .u8 c.op) := HY3.out.cell 7
  have q8 : w3.cell? ⟨Y, 8, none⟩ = some (.slice rb c.rq.length rd) := HY3.out.cell 8
  have q9 : w3.cell? ⟨Y, 9, none⟩ = some (.int .i64 c.cl) := HY3.out.cell 9
  have q10 : w3.cell? ⟨Y, 10, none⟩ = some (.int .i64 c.ky) := HY3.out.cell 10
  have X2 := hide (show X < Y by rw [← hY]; exact K2.out.lt)
  clear k3 y3 b3 o3 e3 x3 hc hok hrl hown ba hY
  go_wp2_with fail
  refine TX.out.mono ?_
  rintro e w4 ⟨ht, hb4⟩
  have kz := K3.out.below hb4 K3.out.lt
  have bz := B3.out.1.trans (hb4.mono B3.out.2)
  have oz := own_belowR O3.out hb4
  have hy := HY3.out.below hb4 HY3.out.lt
  have HOZ := hide oz
  have HYZ := hide hy
  clear oz hy hb4 TX O3 HY3 q0 q1 q2 q3 q4 q5 q6 q7 q8 q9 q10
  rcases ht with ⟨ht, rfl⟩ | ⟨hn, rfl⟩
  rotate_left
  · have WHY := hide (parsed_other HC.out (fun h => hn h.1))
    clear hn
    have z0 : w4.cell? ⟨X, 0, none⟩ = some (.int .u8 0) := kz.cell 0
    have z1 : w4.cell? ⟨X, 1, none⟩ = some (.int .i64 0) := kz.cell 1
    have z2 : w4.cell? ⟨X, 2, none⟩ = some (.int .i64 0) := kz.cell 2
    have z3 : w4.cell? ⟨X, 3, none⟩ = some (.int .i64 0) := kz.cell 3
    have z4 : w4.cell? ⟨X, 4, none⟩ = some (.int .i64 0) := kz.cell 4
    have z5 : w4.cell? ⟨X, 5, none⟩ = some (.int .i64 0) := kz.cell 5
    have z6 : w4.cell? ⟨X, 6, none⟩ = some (.int .i64 0) := kz.cell 6
    have z7 : w4.cell? ⟨X, 7, none⟩ = some (.int .u8 0) := kz.cell 7
    have z8 : w4.cell? ⟨X, 8, none⟩ = some (.slice none 0 0) := kz.cell 8
    have z9 : w4.cell? ⟨X, 9, none⟩ = some (.int .i64 0) := kz.cell 9
    have z10 : w4.cell? ⟨X, 10, none⟩ = some (.int .i64 0) := kz.cell 10
    have f0 := kz.frozen 0
    have f1 := kz.frozen 1
    have f2 := kz.frozen 2
    have f3 := kz.frozen 3
    have f4 := kz.frozen 4
    have f5 := kz.frozen 5
    have f6 := kz.frozen 6
    have f7 := kz.frozen 7
    have f8 := kz.frozen 8
    have f9 := kz.frozen 9
    have f10 := kz.frozen 10
    have k9 := put11 kz (.int .u8 0) (.int .i64 0) (.int .i64 0) (.int .i64 0) (.int .i64 0) (.int .i64 0) (.int .i64 0) (.int .u8 0) (.slice none 0 0) (.int .i64 0) (.int .i64 0)
    have b9 := bel11 bz (.int .u8 0) (.int .i64 0) (.int .i64 0) (.int .i64 0) (.int .i64 0) (.int .i64 0) (.int .i64 0) (.int .u8 0) (.slice none 0 0) (.int .i64 0) (.int .i64 0)
    obtain ⟨w9, hw9⟩ : ∃ z, (((((((((((w4.setCell ⟨X, 0, none⟩ (.int .u8 0)).setCell ⟨X, 1, none⟩ (.int .i64 0)).setCell ⟨X, 2, none⟩ (.int .i64 0)).setCell ⟨X, 3, none⟩ (.int .i64 0)).setCell ⟨X, 4, none⟩ (.int .i64 0)).setCell ⟨X, 5, none⟩ (.int .i64 0)).setCell ⟨X, 6, none⟩ (.int .i64 0)).setCell ⟨X, 7, none⟩ (.int .u8 0)).setCell ⟨X, 8, none⟩ (.slice none 0 0)).setCell ⟨X, 9, none⟩ (.int .i64 0)).setCell ⟨X, 10, none⟩ (.int .i64 0)) = z := ⟨_, rfl⟩
    rw [hw9] at k9 b9
    have u0 : w9.cell? ⟨X, 0, none⟩ = some (.int .u8 0) := k9.cell 0
    have u1 : w9.cell? ⟨X, 1, none⟩ = some (.int .i64 0) := k9.cell 1
    have u2 : w9.cell? ⟨X, 2, none⟩ = some (.int .i64 0) := k9.cell 2
    have u3 : w9.cell? ⟨X, 3, none⟩ = some (.int .i64 0) := k9.cell 3
    have u4 : w9.cell? ⟨X, 4, none⟩ = some (.int .i64 0) := k9.cell 4
    have u5 : w9.cell? ⟨X, 5, none⟩ = some (.int .i64 0) := k9.cell 5
    have u6 : w9.cell? ⟨X, 6, none⟩ = some (.int .i64 0) := k9.cell 6
    have u7 : w9.cell? ⟨X, 7, none⟩ = some (.int .u8 0) := k9.cell 7
    have u8 : w9.cell? ⟨X, 8, none⟩ = some (.slice none 0 0) := k9.cell 8
    have u9 : w9.cell? ⟨X, 9, none⟩ = some (.int .i64 0) := k9.cell 9
    have u10 : w9.cell? ⟨X, 10, none⟩ = some (.int .i64 0) := k9.cell 10
    have HB9 := hide b9
    clear b9 k9
    go_wp2_with fail
    exact bodyPost_ret (v := .tuple #[.agg #[.int .u8 0, .int .i64 0, .int .i64 0, .int .i64 0, .int .i64 0, .int .i64 0, .int .i64 0, .int .u8 0, .slice none 0 0, .int .i64 0, .int .i64 0], .int .i64 160]) (by simp [results, Tryd.results9, go_sem, u0, u1, u2, u3, u4, u5, u6, u7, u8, u9, u10]) rfl ⟨.inl ⟨WHY.out, rfl⟩, by rw [HX.out]; exact HB9.out⟩
  · by_cases he : textOf c = s
    · have WHY := hide (parsed_yes OK.out ht he)
      have eb : ((bytes (textOf c)).toList == (bytes s).toList) = true := by rw [beq_word]; exact decide_eq_true he
      have OWF := hide (fun (w' : World) (h : Only [X] w4 w') => own_only HOZ.out h (by intro x hx; rw [List.mem_singleton.1 hx]; exact X1.out))
      clear ht
      have HE2 := hide he
      clear he
      have q0 : w4.cell? ⟨Y, 0, none⟩ = some (.int .u8 c.k) := HYZ.out.cell 0
      have q1 : w4.cell? ⟨Y, 1, none⟩ = some (.int .i64 c.co) := HYZ.out.cell 1
      have q2 : w4.cell? ⟨Y, 2, none⟩ = some (.int .i64 c.pe) := HYZ.out.cell 2
      have q3 : w4.cell? ⟨Y, 3, none⟩ = some (.int .i64 c.tg) := HYZ.out.cell 3
      have q4 : w4.cell? ⟨Y, 4, none⟩ = some (.int .i64 c.va) := HYZ.out.cell 4
      have q5 : w4.cell? ⟨Y, 5, none⟩ = some (.int .i64 c.sz) := HYZ.out.cell 5
      have q6 : w4.cell? ⟨Y, 6, none⟩ = some (.int .i64 c.ro) := HYZ.out.cell 6
      have q7 : w4.cell? ⟨Y, 7, none⟩ = some (.int .u8 c.op) := HYZ.out.cell 7
      have q8 : w4.cell? ⟨Y, 8, none⟩ = some (.slice rb c.rq.length rd) := HYZ.out.cell 8
      have q9 : w4.cell? ⟨Y, 9, none⟩ = some (.int .i64 c.cl) := HYZ.out.cell 9
      have q10 : w4.cell? ⟨Y, 10, none⟩ = some (.int .i64 c.ky) := HYZ.out.cell 10
      have z0 : w4.cell? ⟨X, 0, none⟩ = some (.int .u8 0) := kz.cell 0
      have z1 : w4.cell? ⟨X, 1, none⟩ = some (.int .i64 0) := kz.cell 1
      have z2 : w4.cell? ⟨X, 2, none⟩ = some (.int .i64 0) := kz.cell 2
      have z3 : w4.cell? ⟨X, 3, none⟩ = some (.int .i64 0) := kz.cell 3
      have z4 : w4.cell? ⟨X, 4, none⟩ = some (.int .i64 0) := kz.cell 4
      have z5 : w4.cell? ⟨X, 5, none⟩ = some (.int .i64 0) := kz.cell 5
      have z6 : w4.cell? ⟨X, 6, none⟩ = some (.int .i64 0) := kz.cell 6
      have z7 : w4.cell? ⟨X, 7, none⟩ = some (.int .u8 0) := kz.cell 7
      have z8 : w4.cell? ⟨X, 8, none⟩ = some (.slice none 0 0) := kz.cell 8
      have z9 : w4.cell? ⟨X, 9, none⟩ = some (.int .i64 0) := kz.cell 9
      have z10 : w4.cell? ⟨X, 10, none⟩ = some (.int .i64 0) := kz.cell 10
      have f0 := kz.frozen 0
      have f1 := kz.frozen 1
      have f2 := kz.frozen 2
      have f3 := kz.frozen 3
      have f4 := kz.frozen 4
      have f5 := kz.frozen 5
      have f6 := kz.frozen 6
      have f7 := kz.frozen 7
      have f8 := kz.frozen 8
      have f9 := kz.frozen 9
      have f10 := kz.frozen 10
      have k9 := put11 kz (.int .u8 c.k) (.int .i64 c.co) (.int .i64 c.pe) (.int .i64 c.tg) (.int .i64 c.va) (.int .i64 c.sz) (.int .i64 c.ro) (.int .u8 c.op) (.slice rb c.rq.length rd) (.int .i64 c.cl) (.int .i64 c.ky)
      have b9 := bel11 bz (.int .u8 c.k) (.int .i64 c.co) (.int .i64 c.pe) (.int .i64 c.tg) (.int .i64 c.va) (.int .i64 c.sz) (.int .i64 c.ro) (.int .u8 c.op) (.slice rb c.rq.length rd) (.int .i64 c.cl) (.int .i64 c.ky)
      obtain ⟨w9, hw9⟩ : ∃ z, (((((((((((w4.setCell ⟨X, 0, none⟩ (.int .u8 c.k)).setCell ⟨X, 1, none⟩ (.int .i64 c.co)).setCell ⟨X, 2, none⟩ (.int .i64 c.pe)).setCell ⟨X, 3, none⟩ (.int .i64 c.tg)).setCell ⟨X, 4, none⟩ (.int .i64 c.va)).setCell ⟨X, 5, none⟩ (.int .i64 c.sz)).setCell ⟨X, 6, none⟩ (.int .i64 c.ro)).setCell ⟨X, 7, none⟩ (.int .u8 c.op)).setCell ⟨X, 8, none⟩ (.slice rb c.rq.length rd)).setCell ⟨X, 9, none⟩ (.int .i64 c.cl)).setCell ⟨X, 10, none⟩ (.int .i64 c.ky)) = z := ⟨_, rfl⟩
      rw [hw9] at k9 b9
      have u0 : w9.cell? ⟨X, 0, none⟩ = some (.int .u8 c.k) := k9.cell 0
      have u1 : w9.cell? ⟨X, 1, none⟩ = some (.int .i64 c.co) := k9.cell 1
      have u2 : w9.cell? ⟨X, 2, none⟩ = some (.int .i64 c.pe) := k9.cell 2
      have u3 : w9.cell? ⟨X, 3, none⟩ = some (.int .i64 c.tg) := k9.cell 3
      have u4 : w9.cell? ⟨X, 4, none⟩ = some (.int .i64 c.va) := k9.cell 4
      have u5 : w9.cell? ⟨X, 5, none⟩ = some (.int .i64 c.sz) := k9.cell 5
      have u6 : w9.cell? ⟨X, 6, none⟩ = some (.int .i64 c.ro) := k9.cell 6
      have u7 : w9.cell? ⟨X, 7, none⟩ = some (.int .u8 c.op) := k9.cell 7
      have u8 : w9.cell? ⟨X, 8, none⟩ = some (.slice rb c.rq.length rd) := k9.cell 8
      have u9 : w9.cell? ⟨X, 9, none⟩ = some (.int .i64 c.cl) := k9.cell 9
      have u10 : w9.cell? ⟨X, 10, none⟩ = some (.int .i64 c.ky) := k9.cell 10
      have HB9 := hide b9
      clear b9 k9
      have ONZ : Hid (Only [X] w4 w9) := hide (by
        rw [← hw9]
        exact Only.trans (Only.trans (Only.trans (Only.trans (Only.trans (Only.trans (Only.trans (Only.trans (Only.trans (Only.trans (Only.set_ _ _ (List.mem_singleton.2 rfl)) (Only.set_ _ _ (List.mem_singleton.2 rfl))) (Only.set_ _ _ (List.mem_singleton.2 rfl))) (Only.set_ _ _ (List.mem_singleton.2 rfl))) (Only.set_ _ _ (List.mem_singleton.2 rfl))) (Only.set_ _ _ (List.mem_singleton.2 rfl))) (Only.set_ _ _ (List.mem_singleton.2 rfl))) (Only.set_ _ _ (List.mem_singleton.2 rfl))) (Only.set_ _ _ (List.mem_singleton.2 rfl))) (Only.set_ _ _ (List.mem_singleton.2 rfl))) (Only.set_ _ _ (List.mem_singleton.2 rfl)))
      have OWN : Hid (w9.ownsRow w.heap.size 3 1 (.slice rb c.rq.length rd) c.rq.length (i64s c.rq)) := hide (own_wide (OWF.out w9 ONZ.out) (by rw [HX.out]; exact Nat.le_of_lt X1.out))
      clear OWF
      go_wp2_with fail
      exact bodyPost_ret (v := .tuple #[.agg #[.int .u8 c.k, .int .i64 c.co, .int .i64 c.pe, .int .i64 c.tg, .int .i64 c.va, .int .i64 c.sz, .int .i64 c.ro, .int .u8 c.op, .slice rb c.rq.length rd, .int .i64 c.cl, .int .i64 c.ky], .int .i64 0]) (by simp [results, Tryd.results9, go_sem, u0, u1, u2, u3, u4, u5, u6, u7, u8, u9, u10]) rfl ⟨.inr ⟨c, rb, rd, WHY.out, OK.out, RL.out, rfl, OWN.out⟩, by rw [HX.out]; exact HB9.out⟩
    · have WHY := hide (parsed_other HC.out (fun h => he h.2))
      have eb : ((bytes (textOf c)).toList == (bytes s).toList) = false := by rw [beq_word]; exact decide_eq_false he
      clear ht he
      have z0 : w4.cell? ⟨X, 0, none⟩ = some (.int .u8 0) := kz.cell 0
      have z1 : w4.cell? ⟨X, 1, none⟩ = some (.int .i64 0) := kz.cell 1
      have z2 : w4.cell? ⟨X, 2, none⟩ = some (.int .i64 0) := kz.cell 2
      have z3 : w4.cell? ⟨X, 3, none⟩ = some (.int .i64 0) := kz.cell 3
      have z4 : w4.cell? ⟨X, 4, none⟩ = some (.int .i64 0) := kz.cell 4
      have z5 : w4.cell? ⟨X, 5, none⟩ = some (.int .i64 0) := kz.cell 5
      have z6 : w4.cell? ⟨X, 6, none⟩ = some (.int .i64 0) := kz.cell 6
      have z7 : w4.cell? ⟨X, 7, none⟩ = some (.int .u8 0) := kz.cell 7
      have z8 : w4.cell? ⟨X, 8, none⟩ = some (.slice none 0 0) := kz.cell 8
      have z9 : w4.cell? ⟨X, 9, none⟩ = some (.int .i64 0) := kz.cell 9
      have z10 : w4.cell? ⟨X, 10, none⟩ = some (.int .i64 0) := kz.cell 10
      have f0 := kz.frozen 0
      have f1 := kz.frozen 1
      have f2 := kz.frozen 2
      have f3 := kz.frozen 3
      have f4 := kz.frozen 4
      have f5 := kz.frozen 5
      have f6 := kz.frozen 6
      have f7 := kz.frozen 7
      have f8 := kz.frozen 8
      have f9 := kz.frozen 9
      have f10 := kz.frozen 10
      have k9 := put11 kz (.int .u8 0) (.int .i64 0) (.int .i64 0) (.int .i64 0) (.int .i64 0) (.int .i64 0) (.int .i64 0) (.int .u8 0) (.slice none 0 0) (.int .i64 0) (.int .i64 0)
      have b9 := bel11 bz (.int .u8 0) (.int .i64 0) (.int .i64 0) (.int .i64 0) (.int .i64 0) (.int .i64 0) (.int .i64 0) (.int .u8 0) (.slice none 0 0) (.int .i64 0) (.int .i64 0)
      obtain ⟨w9, hw9⟩ : ∃ z, (((((((((((w4.setCell ⟨X, 0, none⟩ (.int .u8 0)).setCell ⟨X, 1, none⟩ (.int .i64 0)).setCell ⟨X, 2, none⟩ (.int .i64 0)).setCell ⟨X, 3, none⟩ (.int .i64 0)).setCell ⟨X, 4, none⟩ (.int .i64 0)).setCell ⟨X, 5, none⟩ (.int .i64 0)).setCell ⟨X, 6, none⟩ (.int .i64 0)).setCell ⟨X, 7, none⟩ (.int .u8 0)).setCell ⟨X, 8, none⟩ (.slice none 0 0)).setCell ⟨X, 9, none⟩ (.int .i64 0)).setCell ⟨X, 10, none⟩ (.int .i64 0)) = z := ⟨_, rfl⟩
      rw [hw9] at k9 b9
      have u0 : w9.cell? ⟨X, 0, none⟩ = some (.int .u8 0) := k9.cell 0
      have u1 : w9.cell? ⟨X, 1, none⟩ = some (.int .i64 0) := k9.cell 1
      have u2 : w9.cell? ⟨X, 2, none⟩ = some (.int .i64 0) := k9.cell 2
      have u3 : w9.cell? ⟨X, 3, none⟩ = some (.int .i64 0) := k9.cell 3
      have u4 : w9.cell? ⟨X, 4, none⟩ = some (.int .i64 0) := k9.cell 4
      have u5 : w9.cell? ⟨X, 5, none⟩ = some (.int .i64 0) := k9.cell 5
      have u6 : w9.cell? ⟨X, 6, none⟩ = some (.int .i64 0) := k9.cell 6
      have u7 : w9.cell? ⟨X, 7, none⟩ = some (.int .u8 0) := k9.cell 7
      have u8 : w9.cell? ⟨X, 8, none⟩ = some (.slice none 0 0) := k9.cell 8
      have u9 : w9.cell? ⟨X, 9, none⟩ = some (.int .i64 0) := k9.cell 9
      have u10 : w9.cell? ⟨X, 10, none⟩ = some (.int .i64 0) := k9.cell 10
      have HB9 := hide b9
      clear b9 k9
      go_wp2_with fail
      exact bodyPost_ret (v := .tuple #[.agg #[.int .u8 0, .int .i64 0, .int .i64 0, .int .i64 0, .int .i64 0, .int .i64 0, .int .i64 0, .int .u8 0, .slice none 0 0, .int .i64 0, .int .i64 0], .int .i64 160]) (by simp [results, Tryd.results9, go_sem, u0, u1, u2, u3, u4, u5, u6, u7, u8, u9, u10]) rfl ⟨.inl ⟨WHY.out, rfl⟩, by rw [HX.out]; exact HB9.out⟩
end Cal
end Go.Proofs.YthcoelkpiflfeaaDoor
