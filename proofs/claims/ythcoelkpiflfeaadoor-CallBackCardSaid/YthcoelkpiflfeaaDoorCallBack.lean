/- The walk of the statement CallBack. -/
import Derived.Test.YthcoelkpiflfeaaDoorRows
import Derived.Test.YthcoelkpiflfeaaDoorCtO
import Derived.Test.YthcoelkpiflfeaaDoorCtIn
import Derived.Test.YthcoelkpiflfeaaDoorCalN
import Derived.Test.YthcoelkpiflfeaaDoorToldC
import Derived.Test.YthcoelkpiflfeaaDoorCtEnv
namespace Go.Proofs.YthcoelkpiflfeaaDoor.CallBackW
open Go Go.RowKit Go.Lib Go.Proofs.YthcoelkpiflfeaaDoor Go.Proofs.YthcoelkpiflfeaaDoor.Grp Go.Proofs.YthcoelkpiflfeaaDoor.Cal
set_option linter.unusedVariables false
set_option linter.unusedSimpArgs false
theorem text_len {c : Cl} (h : hasText c) (ho : c.ok) : (textOf c).length ≤ 900 := by
  have hw := word_len c.k
  have ha : (argT c).length ≤ 400 := by
    unfold argT
    split
    · rename_i h7
      have hm := (h.2.2.2 h7).2
      have := Told.jnC_len ho.rq
      have : (c.rq.length : Int) ≤ 8 := by
        split at hm <;> omega
      omega
    · have h1 := Told.jnC_len (l := numsOf c) (by rw [← numsAt_all]; exact nums_fit ho _)
      have h2 : (numsOf c).length ≤ 5 := by rw [← numsAt_all]; exact numsAt_len c _
      have h3 : (lastT c).length ≤ 5 := by rw [← lastAt_all]; exact last_len c _
      rw [List.length_append]
      omega
  unfold textOf
  simp only [List.length_append, List.length_cons, List.length_nil]
  omega
theorem trim_k {c : Cl} (h : usedL c.k ≠ []) : (trimC c).k = c.k := if_neg h
theorem trim_trim (c : Cl) : trimC (trimC c) = trimC c := by
  by_cases h : usedL c.k = []
  · have e : usedL (0 : Int) = [] := by decide
    simp [trimC, h, hasF, e]
  · simp [trimC, h, hasF]
    exact ⟨fun a b => absurd b a, fun a b => absurd b a, fun a b => absurd b a, fun a b => absurd b a, fun a b => absurd b a, fun a b => absurd b a, fun a b => absurd b a, fun a b => absurd b a, fun a b => absurd b a, fun a b => absurd b a⟩
theorem trim_ok {c : Cl} (h : c.ok) : (trimC c).ok := by
  have z := fit_zero
  refine ⟨?_, ?_, ?_, ?_, ?_, ?_, ?_, ?_, ?_, ?_, ?_⟩
  · show 0 ≤ (if usedL c.k = [] then 0 else c.k) ∧ (if usedL c.k = [] then 0 else c.k) ≤ 255
    split
    · omega
    · exact h.k
  · show 0 ≤ (if hasF c.k 6 then c.op else 0) ∧ (if hasF c.k 6 then c.op else 0) ≤ 255
    split
    · exact h.op
    · omega
  · show Told.Fit (if hasF c.k 0 then c.co else 0)
    split
    · exact h.co
    · exact z
  · show Told.Fit (if hasF c.k 1 then c.pe else 0)
    split
    · exact h.pe
    · exact z
  · show Told.Fit (if hasF c.k 2 then c.tg else 0)
    split
    · exact h.tg
    · exact z
  · show Told.Fit (if hasF c.k 3 then c.va else 0)
    split
    · exact h.va
    · exact z
  · show Told.Fit (if hasF c.k 4 then c.sz else 0)
    split
    · exact h.sz
    · exact z
  · show Told.Fit (if hasF c.k 5 then c.ro else 0)
    split
    · exact h.ro
    · exact z
  · show Told.Fit (if hasF c.k 8 then c.cl else 0)
    split
    · exact h.cl
    · exact z
  · show Told.Fit (if hasF c.k 8 then c.ky else 0)
    split
    · exact h.ky
    · exact z
  · show ∀ z ∈ (if hasF c.k 7 then c.rq else []), Told.Fit z
    split
    · exact h.rq
    · intro z hz; cases hz
theorem may_text {c : Cl} {l : List Int} (h : mayC c l) : hasText (trimC c) := by
  obtain ⟨_, h0, hf⟩ := h
  have hk := trim_k h0
  refine ⟨by rw [hk]; exact h0, (trim_trim c).symm, ?_, ?_⟩
  · show (if hasF c.k 6 then c.op else 0) ≤ 2
    split
    · rename_i h6
      exact hf 6 (of_decide_eq_true h6)
    · omega
  · intro h7
    rw [hk] at h7
    have hm : mayR c := hf 7 (of_decide_eq_true h7)
    have e : (trimC c).rq = c.rq := if_pos h7
    unfold manyR
    rw [e, hk]
    exact hm.1
theorem text_ne (c : Cl) : (bytes (textOf c)).toList.isEmpty = false := by
  rw [ByteArray.toList_eq, bytes_data]
  unfold textOf
  simp
set_option maxRecDepth 100000 in
set_option maxHeartbeats 32000000 in
theorem walk {H : Type} {enc : TypeId × Value → H} {base : Nat} (W : World) (HEN : Env W) (v0 : Value) (d0 : DataW H) (p0 : List MemPlace) (o0 : Value.okWide Tryd.prog W .any base 24 v0) (r0 : DataW.Trod enc Tryd.prog W 0 (fun _ => true) true 24 v0 d0 p0) (a1 : ByteArray) (w1 : a1.size ≤ maxLen) (v2 : Value) (d2 : DataW H) (p2 : List MemPlace) (o2 : Value.okWide Tryd.prog W .any base 37 v2) (r2 : DataW.Trod enc Tryd.prog W 0 (fun _ => true) true 37 v2 d2 p2) :
    Calls Tryd.prog 4 #[v0, .string a1, v2] W fun e w' => e = .returned (.bool true) ∧ Below W.heap.size W w' := by
  obtain ⟨c, ra, rc, rfl, hra, hok, hrc⟩ := call_in o0 r0 (fun _ => rfl)
  obtain ⟨key, A, l, gc, rfl, hrg⟩ := group_of o2 r2 (fun _ => rfl)
  obtain ⟨s, rfl⟩ : ∃ s, a1 = bytes s := ⟨a1.data.toList, rfl⟩
  clear o0 r0 o2 r2 w1
  unfold Cl.A clA
  have b2 := ((Below.refl W.heap.size W).alloc (Nat.le_refl _) (.cells #[.int .u8 c.k, .int .i64 c.co, .int .i64 c.pe, .int .i64 c.tg, .int .i64 c.va, .int .i64 c.sz, .int .i64 c.ro, .int .u8 c.op, .slice ra c.rq.length rc, .int .i64 c.cl, .int .i64 c.ky] 24)).alloc (by simp) (.cells #[.string key, .slice A l.length gc] 37)
  have k0 := Blk.new W 24 #[.int .u8 c.k, .int .i64 c.co, .int .i64 c.pe, .int .i64 c.tg, .int .i64 c.va, .int .i64 c.sz, .int .i64 c.ro, .int .u8 c.op, .slice ra c.rq.length rc, .int .i64 c.cl, .int .i64 c.ky]
  have a1 := (Below.refl (W.alloc (.cells #[.int .u8 c.k, .int .i64 c.co, .int .i64 c.pe, .int .i64 c.tg, .int .i64 c.va, .int .i64 c.sz, .int .i64 c.ro, .int .u8 c.op, .slice ra c.rq.length rc, .int .i64 c.cl, .int .i64 c.ky] 24)).heap.size _).alloc (Nat.le_refl _) (.cells #[.string key, .slice A l.length gc] 37)
  have k0b := k0.below a1 k0.lt
  have k1 := Blk.new (W.alloc (.cells #[.int .u8 c.k, .int .i64 c.co, .int .i64 c.pe, .int .i64 c.tg, .int .i64 c.va, .int .i64 c.sz, .int .i64 c.ro, .int .u8 c.op, .slice ra c.rq.length rc, .int .i64 c.cl, .int .i64 c.ky] 24)) 37 #[.string key, .slice A l.length gc]
  rw [show (W.alloc (.cells #[.int .u8 c.k, .int .i64 c.co, .int .i64 c.pe, .int .i64 c.tg, .int .i64 c.va, .int .i64 c.sz, .int .i64 c.ro, .int .u8 c.op, .slice ra c.rq.length rc, .int .i64 c.cl, .int .i64 c.ky] 24)).heap.size = W.heap.size + 1 by simp] at k1
  go_enter Tryd.func4, Tryd.ntmps4
  go_upto_region 1 with (fail)
  obtain ⟨w2, hw2⟩ : ∃ y, (W.alloc (.cells #[.int .u8 c.k, .int .i64 c.co, .int .i64 c.pe, .int .i64 c.tg, .int .i64 c.va, .int .i64 c.sz, .int .i64 c.ro, .int .u8 c.op, .slice ra c.rq.length rc, .int .i64 c.cl, .int .i64 c.ky] 24)).alloc (.cells #[.string key, .slice A l.length gc] 37) = y := ⟨_, rfl⟩
  rw [hw2] at b2 k0b k1 ⊢
  have HEB := hide (fun (w' : World) (hb : Below W.heap.size W w') => HEN.below hb (Nat.le_refl _))
  have HRA := hide (fun (w' : World) (hb : Below W.heap.size W w') => hra.below hb)
  have HRG := hide (fun (w' : World) (hb : Below W.heap.size W w') => hrg.below hb)
  have HB2 := hide (And.intro b2 b2.size)
  obtain ⟨X, hX⟩ : ∃ X, W.heap.size = X := ⟨_, rfl⟩
  obtain ⟨Y, hY⟩ : ∃ Y, W.heap.size + 1 = Y := ⟨_, rfl⟩
  rw [hX] at k0b
  rw [hY] at k1
  rw [hX, show X + 1 = Y by rw [← hX]; exact hY]
  have KC2 := hide k0b
  have KG2 := hide k1
  have OK := hide hok
  have HRC := hide hrc
  have AW := hide (awake_c Told.told_a w2 (HEB.out w2 HB2.out.1))
  clear b2 k0 a1 k0b k1 hw2 hra hrg hok hrc HEN hX hY
  go_wp2_with fail
  refine AW.out.mono ?_
  rintro e w3 ⟨rfl, hb3⟩
  have HB3 := hide (And.intro (HB2.out.1.trans (hb3.mono HB2.out.2)) (Nat.le_trans HB2.out.2 hb3.size))
  have KC3 := hide (KC2.out.below hb3 KC2.out.lt)
  have KG3 := hide (KG2.out.below hb3 KG2.out.lt)
  clear hb3 AW KC2 KG2 HB2
  have bz := bytes_size s
  have x8 : w3.cell? ⟨X, 8, none⟩ = some (.slice ra c.rq.length rc) := KC3.out.cell 8
  have y1 : w3.cell? ⟨Y, 1, none⟩ = some (.slice A l.length gc) := KG3.out.cell 1
  by_cases g1 : 60 < c.rq.length
  · have g1I : (60 : Int) < (c.rq.length : Int) := by omega
    go_wp2_with fail
    go_ret
    exact ⟨rfl, HB3.out.1⟩
  have g1I : ¬ (60 : Int) < (c.rq.length : Int) := by omega
  by_cases g2 : 300 < s.length
  · have g2I : (300 : Int) < (s.length : Int) := by omega
    go_wp2_with fail
    go_ret
    exact ⟨rfl, HB3.out.1⟩
  have g2I : ¬ (300 : Int) < (s.length : Int) := by omega
  by_cases g3 : 100 < l.length
  · have g3I : (100 : Int) < (l.length : Int) := by omega
    go_wp2_with fail
    go_ret
    exact ⟨rfl, HB3.out.1⟩
  have g3I : ¬ (100 : Int) < (l.length : Int) := by omega
  have HG1 := hide (show c.rq.length ≤ 60 by omega)
  have HG2 := hide (show s.length ≤ 300 by omega)
  have HG3 := hide (show l.length ≤ 100 by omega)
  have TX := hide (Text_c c ra rc w3 (HRA.out w3 HB3.out.1) (by omega) OK.out (HEB.out w3 HB3.out.1).pow (HEB.out w3 HB3.out.1).red)
  have q0 : w3.cell? ⟨X, 0, none⟩ = some (.int .u8 c.k) := KC3.out.cell 0
  have q1 : w3.cell? ⟨X, 1, none⟩ = some (.int .i64 c.co) := KC3.out.cell 1
  have q2 : w3.cell? ⟨X, 2, none⟩ = some (.int .i64 c.pe) := KC3.out.cell 2
  have q3 : w3.cell? ⟨X, 3, none⟩ = some (.int .i64 c.tg) := KC3.out.cell 3
  have q4 : w3.cell? ⟨X, 4, none⟩ = some (.int .i64 c.va) := KC3.out.cell 4
  have q5 : w3.cell? ⟨X, 5, none⟩ = some (.int .i64 c.sz) := KC3.out.cell 5
  have q6 : w3.cell? ⟨X, 6, none⟩ = some (.int .i64 c.ro) := KC3.out.cell 6
  have q7 : w3.cell? ⟨X, 7, none⟩ = some (.int .u8 c.op) := KC3.out.cell 7
  have q8 : w3.cell? ⟨X, 8, none⟩ = some (.slice ra c.rq.length rc) := KC3.out.cell 8
  have q9 : w3.cell? ⟨X, 9, none⟩ = some (.int .i64 c.cl) := KC3.out.cell 9
  have q10 : w3.cell? ⟨X, 10, none⟩ = some (.int .i64 c.ky) := KC3.out.cell 10
  clear g1 g2 g3 x8
  go_wp2_with fail
  refine TX.out.mono ?_
  rintro e w4 ⟨ht, hb4⟩
  have HB4 := hide (And.intro (HB3.out.1.trans (hb4.mono HB3.out.2)) (Nat.le_trans HB3.out.2 hb4.size))
  have KC4 := hide (KC3.out.below hb4 KC3.out.lt)
  have KG4 := hide (KG3.out.below hb4 KG3.out.lt)
  clear hb4 TX KC3 KG3 HB3 y1 g1I g2I g3I bz q0 q1 q2 q3 q4 q5 q6 q7 q8 q9 q10
  rcases ht with ⟨ht, rfl⟩ | ⟨ht, rfl⟩
  · have PA := hide (Parse_c (textOf c) w4 (HEB.out w4 HB4.out.1) (text_len ht OK.out))
    have PY := hide (parsed_yes OK.out ht rfl)
    clear ht
    go_wp2_with fail
    refine PA.out.mono ?_
    rintro e w5 hp
    obtain ⟨rp, dp, rfl, hown, hb5⟩ := parse_yes hp PY.out
    unfold Cl.A clA
    have NR5 := hide (own_row hown rfl)
    have HB5 := hide (And.intro (HB4.out.1.trans (hb5.mono HB4.out.2)) (Nat.le_trans HB4.out.2 hb5.size))
    have KC5 := hide (KC4.out.below hb5 KC4.out.lt)
    have KG5 := hide (KG4.out.below hb5 KG4.out.lt)
    clear hp hown hb5 PA PY KC4 KG4 HB4
    have ba := (Below.refl w5.heap.size w5).alloc (Nat.le_refl _) (.cells #[.int .u8 c.k, .int .i64 c.co, .int .i64 c.pe, .int .i64 c.tg, .int .i64 c.va, .int .i64 c.sz, .int .i64 c.ro, .int .u8 c.op, .slice rp c.rq.length dp, .int .i64 c.cl, .int .i64 c.ky] 24)
    have kp := Blk.new w5 24 #[.int .u8 c.k, .int .i64 c.co, .int .i64 c.pe, .int .i64 c.tg, .int .i64 c.va, .int .i64 c.sz, .int .i64 c.ro, .int .u8 c.op, .slice rp c.rq.length dp, .int .i64 c.cl, .int .i64 c.ky]
    obtain ⟨w6, hw6⟩ : ∃ y, w5.alloc (.cells #[.int .u8 c.k, .int .i64 c.co, .int .i64 c.pe, .int .i64 c.tg, .int .i64 c.va, .int .i64 c.sz, .int .i64 c.ro, .int .u8 c.op, .slice rp c.rq.length dp, .int .i64 c.cl, .int .i64 c.ky] 24) = y := ⟨_, rfl⟩
    obtain ⟨T, hT⟩ : ∃ T, w5.heap.size = T := ⟨_, rfl⟩
    rw [hw6] at ba kp
    rw [hT] at kp
    have HW6 := hide hw6
    have HT := hide hT
    have HB6 := hide (And.intro (HB5.out.1.trans (ba.mono HB5.out.2)) (Nat.le_trans HB5.out.2 ba.size))
    have KC6 := hide (KC5.out.below ba KC5.out.lt)
    have KG6 := hide (KG5.out.below ba KG5.out.lt)
    have NR6 := hide (NR5.out.below ba)
    have q0 : w6.cell? ⟨X, 0, none⟩ = some (.int .u8 c.k) := KC6.out.cell 0
    have q1 : w6.cell? ⟨X, 1, none⟩ = some (.int .i64 c.co) := KC6.out.cell 1
    have q2 : w6.cell? ⟨X, 2, none⟩ = some (.int .i64 c.pe) := KC6.out.cell 2
    have q3 : w6.cell? ⟨X, 3, none⟩ = some (.int .i64 c.tg) := KC6.out.cell 3
    have q4 : w6.cell? ⟨X, 4, none⟩ = some (.int .i64 c.va) := KC6.out.cell 4
    have q5 : w6.cell? ⟨X, 5, none⟩ = some (.int .i64 c.sz) := KC6.out.cell 5
    have q6 : w6.cell? ⟨X, 6, none⟩ = some (.int .i64 c.ro) := KC6.out.cell 6
    have q7 : w6.cell? ⟨X, 7, none⟩ = some (.int .u8 c.op) := KC6.out.cell 7
    have q8 : w6.cell? ⟨X, 8, none⟩ = some (.slice ra c.rq.length rc) := KC6.out.cell 8
    have q9 : w6.cell? ⟨X, 9, none⟩ = some (.int .i64 c.cl) := KC6.out.cell 9
    have q10 : w6.cell? ⟨X, 10, none⟩ = some (.int .i64 c.ky) := KC6.out.cell 10
    have p0 : w6.cell? ⟨T, 0, none⟩ = some (.int .u8 c.k) := kp.cell 0
    have p1 : w6.cell? ⟨T, 1, none⟩ = some (.int .i64 c.co) := kp.cell 1
    have p2 : w6.cell? ⟨T, 2, none⟩ = some (.int .i64 c.pe) := kp.cell 2
    have p3 : w6.cell? ⟨T, 3, none⟩ = some (.int .i64 c.tg) := kp.cell 3
    have p4 : w6.cell? ⟨T, 4, none⟩ = some (.int .i64 c.va) := kp.cell 4
    have p5 : w6.cell? ⟨T, 5, none⟩ = some (.int .i64 c.sz) := kp.cell 5
    have p6 : w6.cell? ⟨T, 6, none⟩ = some (.int .i64 c.ro) := kp.cell 6
    have p7 : w6.cell? ⟨T, 7, none⟩ = some (.int .u8 c.op) := kp.cell 7
    have p8 : w6.cell? ⟨T, 8, none⟩ = some (.slice rp c.rq.length dp) := kp.cell 8
    have p9 : w6.cell? ⟨T, 9, none⟩ = some (.int .i64 c.cl) := kp.cell 9
    have p10 : w6.cell? ⟨T, 10, none⟩ = some (.int .i64 c.ky) := kp.cell 10
    have SM := hide (Same_b c c ra rp rc dp w6 (HRA.out w6 HB6.out.1) NR6.out (by have := HG1.out; omega) (by have := HG1.out; omega))
    rw [decide_eq_true (rfl : c = c)] at SM
    clear ba kp hw6 hT NR5 NR6 KC5 KG5 HB5
    go_upto_region 10 with (fail)
    rw [HW6.out, HT.out]
    go_wp2_with fail
    refine SM.out.mono ?_
    rintro e w7 ⟨rfl, hb7⟩
    have HBz := hide (And.intro (HB6.out.1.trans (hb7.mono HB6.out.2)) (Nat.le_trans HB6.out.2 hb7.size))
    have KCz := hide (KC6.out.below hb7 KC6.out.lt)
    have KGz := hide (KG6.out.below hb7 KG6.out.lt)
    clear hb7 SM KC6 KG6 HB6 HW6 HT q0 p0 q1 p1 q2 p2 q3 p3 q4 p4 q5 p5 q6 p6 q7 p7 q8 p8 q9 p9 q10 p10
    have q0 : w7.cell? ⟨X, 0, none⟩ = some (.int .u8 c.k) := KCz.out.cell 0
    have q1 : w7.cell? ⟨X, 1, none⟩ = some (.int .i64 c.co) := KCz.out.cell 1
    have q2 : w7.cell? ⟨X, 2, none⟩ = some (.int .i64 c.pe) := KCz.out.cell 2
    have q3 : w7.cell? ⟨X, 3, none⟩ = some (.int .i64 c.tg) := KCz.out.cell 3
    have q4 : w7.cell? ⟨X, 4, none⟩ = some (.int .i64 c.va) := KCz.out.cell 4
    have q5 : w7.cell? ⟨X, 5, none⟩ = some (.int .i64 c.sz) := KCz.out.cell 5
    have q6 : w7.cell? ⟨X, 6, none⟩ = some (.int .i64 c.ro) := KCz.out.cell 6
    have q7 : w7.cell? ⟨X, 7, none⟩ = some (.int .u8 c.op) := KCz.out.cell 7
    have q8 : w7.cell? ⟨X, 8, none⟩ = some (.slice ra c.rq.length rc) := KCz.out.cell 8
    have q9 : w7.cell? ⟨X, 9, none⟩ = some (.int .i64 c.cl) := KCz.out.cell 9
    have q10 : w7.cell? ⟨X, 10, none⟩ = some (.int .i64 c.ky) := KCz.out.cell 10
    have g0 : w7.cell? ⟨Y, 0, none⟩ = some (.string key) := KGz.out.cell 0
    have g1 : w7.cell? ⟨Y, 1, none⟩ = some (.slice A l.length gc) := KGz.out.cell 1
    have MP := hide (May_p c ra rc key A gc l w7 (HRA.out w7 HBz.out.1) HRC.out (by have := HG1.out; omega) (HRG.out w7 HBz.out.1) (by have := HG3.out; omega))
    obtain ⟨bm, hbm⟩ : ∃ b, decide (mayC c l) = b := ⟨_, rfl⟩
    rw [hbm] at MP
    have HBM := hide hbm
    clear hbm
    go_wp2_with fail
    refine MP.out.mono ?_
    rintro e w8 ⟨rfl, hb8⟩
    have HB8 := hide (And.intro (HBz.out.1.trans (hb8.mono HBz.out.2)) (Nat.le_trans HBz.out.2 hb8.size))
    have KC8 := hide (KCz.out.below hb8 KCz.out.lt)
    clear hb8 MP KCz KGz HBz g0 g1 q0 q1 q2 q3 q4 q5 q6 q7 q8 q9 q10
    cases bm with
    | true =>
      have q0 : w8.cell? ⟨X, 0, none⟩ = some (.int .u8 c.k) := KC8.out.cell 0
      have q1 : w8.cell? ⟨X, 1, none⟩ = some (.int .i64 c.co) := KC8.out.cell 1
      have q2 : w8.cell? ⟨X, 2, none⟩ = some (.int .i64 c.pe) := KC8.out.cell 2
      have q3 : w8.cell? ⟨X, 3, none⟩ = some (.int .i64 c.tg) := KC8.out.cell 3
      have q4 : w8.cell? ⟨X, 4, none⟩ = some (.int .i64 c.va) := KC8.out.cell 4
      have q5 : w8.cell? ⟨X, 5, none⟩ = some (.int .i64 c.sz) := KC8.out.cell 5
      have q6 : w8.cell? ⟨X, 6, none⟩ = some (.int .i64 c.ro) := KC8.out.cell 6
      have q7 : w8.cell? ⟨X, 7, none⟩ = some (.int .u8 c.op) := KC8.out.cell 7
      have q8 : w8.cell? ⟨X, 8, none⟩ = some (.slice ra c.rq.length rc) := KC8.out.cell 8
      have q9 : w8.cell? ⟨X, 9, none⟩ = some (.int .i64 c.cl) := KC8.out.cell 9
      have q10 : w8.cell? ⟨X, 10, none⟩ = some (.int .i64 c.ky) := KC8.out.cell 10
      have TR := hide (Trim_a c ra rc w8 (HRA.out w8 HB8.out.1) (by have := HG1.out; omega) OK.out.op)
      have MT := hide (may_text (of_decide_eq_true HBM.out))
      have TOK := hide (trim_ok OK.out)
      have TRL : Hid ((trimC c).rq.length ≤ 1000) := hide (by
        show (if hasF c.k 7 then c.rq else []).length ≤ 1000
        have := HG1.out
        split
        · omega
        · exact Nat.zero_le _)
      go_wp2_with fail
      refine TR.out.mono ?_
      rintro e w9 ⟨rt, dt, rfl, hown, hb9⟩
      have HB9 := hide (And.intro (HB8.out.1.trans (hb9.mono HB8.out.2)) (Nat.le_trans HB8.out.2 hb9.size))
      have TX := hide (Text_c (trimC c) rt dt w9 (own_row hown rfl) TRL.out TOK.out (HEB.out w9 HB9.out.1).pow (HEB.out w9 HB9.out.1).red)
      clear hown hb9 TR HB8 KC8 q0 q1 q2 q3 q4 q5 q6 q7 q8 q9 q10
      unfold Cl.A clA
      go_wp2_with fail
      refine TX.out.mono ?_
      rintro e w10 ⟨ht, hb10⟩
      obtain rfl := text_yes ht MT.out rfl
      have HBy := hide (And.intro (HB9.out.1.trans (hb10.mono HB9.out.2)) (Nat.le_trans HB9.out.2 hb10.size))
      have TN := text_ne (trimC c)
      have PA := hide (Parse_c s w10 (HEB.out w10 HBy.out.1) (by have := HG2.out; omega))
      clear ht hb10 TX HB9
      go_wp2_with fail
      refine PA.out.mono ?_
      rintro e w11 ⟨hp, hb11⟩
      clear TN
      have HB11 := hide (And.intro (HBy.out.1.trans (hb11.mono HBy.out.2)) (Nat.le_trans HBy.out.2 hb11.size))
      clear hb11 PA HBy
      rcases hp with ⟨hn, rfl⟩ | ⟨p, rp, dp, hpa, hpo, hpl, rfl, hown⟩
      · clear hn
        rw [show zeroC.A none 0 = #[.int .u8 0, .int .i64 0, .int .i64 0, .int .i64 0, .int .i64 0, .int .i64 0, .int .i64 0, .int .u8 0, .slice none 0 0, .int .i64 0, .int .i64 0] from rfl]
        have ba := (Below.refl w11.heap.size w11).alloc (Nat.le_refl _) (.cells #[.int .u8 0, .int .i64 0, .int .i64 0, .int .i64 0, .int .i64 0, .int .i64 0, .int .i64 0, .int .u8 0, .slice none 0 0, .int .i64 0, .int .i64 0] 24)
        have kp := Blk.new w11 24 #[.int .u8 0, .int .i64 0, .int .i64 0, .int .i64 0, .int .i64 0, .int .i64 0, .int .i64 0, .int .u8 0, .slice none 0 0, .int .i64 0, .int .i64 0]
        obtain ⟨w12, hw12⟩ : ∃ y, w11.alloc (.cells #[.int .u8 0, .int .i64 0, .int .i64 0, .int .i64 0, .int .i64 0, .int .i64 0, .int .i64 0, .int .u8 0, .slice none 0 0, .int .i64 0, .int .i64 0] 24) = y := ⟨_, rfl⟩
        obtain ⟨T2, hT2⟩ : ∃ T, w11.heap.size = T := ⟨_, rfl⟩
        rw [hw12] at ba kp
        rw [hT2] at kp
        have HW12 := hide hw12
        have HT2 := hide hT2
        have HB12 := hide (And.intro (HB11.out.1.trans (ba.mono HB11.out.2)) (Nat.le_trans HB11.out.2 ba.size))
        have z0 : w12.cell? ⟨T2, 0, none⟩ = some (.int .u8 0) := kp.cell 0
        have z1 : w12.cell? ⟨T2, 1, none⟩ = some (.int .i64 0) := kp.cell 1
        have z2 : w12.cell? ⟨T2, 2, none⟩ = some (.int .i64 0) := kp.cell 2
        have z3 : w12.cell? ⟨T2, 3, none⟩ = some (.int .i64 0) := kp.cell 3
        have z4 : w12.cell? ⟨T2, 4, none⟩ = some (.int .i64 0) := kp.cell 4
        have z5 : w12.cell? ⟨T2, 5, none⟩ = some (.int .i64 0) := kp.cell 5
        have z6 : w12.cell? ⟨T2, 6, none⟩ = some (.int .i64 0) := kp.cell 6
        have z7 : w12.cell? ⟨T2, 7, none⟩ = some (.int .u8 0) := kp.cell 7
        have z8 : w12.cell? ⟨T2, 8, none⟩ = some (.slice none 0 0) := kp.cell 8
        have z9 : w12.cell? ⟨T2, 9, none⟩ = some (.int .i64 0) := kp.cell 9
        have z10 : w12.cell? ⟨T2, 10, none⟩ = some (.int .i64 0) := kp.cell 10
        have SM := hide (Same_b zeroC zeroC none none 0 0 w12 (fun h => absurd h (by decide)) (fun h => absurd h (by decide)) (by decide) (by decide))
        rw [decide_eq_true (rfl : zeroC = zeroC)] at SM
        clear ba kp hw12 hT2 HB11
        go_upto_region 17 with (fail)
        rw [HW12.out, HT2.out]
        go_wp2_with fail
        refine SM.out.mono ?_
        rintro e w13 ⟨rfl, hb13⟩
        have HBF := hide (HB12.out.1.trans (hb13.mono HB12.out.2))
        clear hb13
        go_wp2_with fail
        go_ret
        exact ⟨rfl, HBF.out⟩
      · obtain ⟨hh, hs⟩ : hasText p ∧ textOf p = s := by
          rcases hpa with ⟨p', e, _, h1, h2⟩ | ⟨e, _⟩
          · injection e with e; subst e; exact ⟨h1, h2⟩
          · cases e
        unfold Cl.A clA
        have ba := (Below.refl w11.heap.size w11).alloc (Nat.le_refl _) (.cells #[.int .u8 p.k, .int .i64 p.co, .int .i64 p.pe, .int .i64 p.tg, .int .i64 p.va, .int .i64 p.sz, .int .i64 p.ro, .int .u8 p.op, .slice rp p.rq.length dp, .int .i64 p.cl, .int .i64 p.ky] 24)
        have kp := Blk.new w11 24 #[.int .u8 p.k, .int .i64 p.co, .int .i64 p.pe, .int .i64 p.tg, .int .i64 p.va, .int .i64 p.sz, .int .i64 p.ro, .int .u8 p.op, .slice rp p.rq.length dp, .int .i64 p.cl, .int .i64 p.ky]
        have nr := (own_row hown rfl).below ba
        obtain ⟨w12, hw12⟩ : ∃ y, w11.alloc (.cells #[.int .u8 p.k, .int .i64 p.co, .int .i64 p.pe, .int .i64 p.tg, .int .i64 p.va, .int .i64 p.sz, .int .i64 p.ro, .int .u8 p.op, .slice rp p.rq.length dp, .int .i64 p.cl, .int .i64 p.ky] 24) = y := ⟨_, rfl⟩
        obtain ⟨T2, hT2⟩ : ∃ T, w11.heap.size = T := ⟨_, rfl⟩
        rw [hw12] at ba kp nr
        rw [hT2] at kp
        have HW12 := hide hw12
        have HT2 := hide hT2
        have HB12 := hide (And.intro (HB11.out.1.trans (ba.mono HB11.out.2)) (Nat.le_trans HB11.out.2 ba.size))
        have z0 : w12.cell? ⟨T2, 0, none⟩ = some (.int .u8 p.k) := kp.cell 0
        have z1 : w12.cell? ⟨T2, 1, none⟩ = some (.int .i64 p.co) := kp.cell 1
        have z2 : w12.cell? ⟨T2, 2, none⟩ = some (.int .i64 p.pe) := kp.cell 2
        have z3 : w12.cell? ⟨T2, 3, none⟩ = some (.int .i64 p.tg) := kp.cell 3
        have z4 : w12.cell? ⟨T2, 4, none⟩ = some (.int .i64 p.va) := kp.cell 4
        have z5 : w12.cell? ⟨T2, 5, none⟩ = some (.int .i64 p.sz) := kp.cell 5
        have z6 : w12.cell? ⟨T2, 6, none⟩ = some (.int .i64 p.ro) := kp.cell 6
        have z7 : w12.cell? ⟨T2, 7, none⟩ = some (.int .u8 p.op) := kp.cell 7
        have z8 : w12.cell? ⟨T2, 8, none⟩ = some (.slice rp p.rq.length dp) := kp.cell 8
        have z9 : w12.cell? ⟨T2, 9, none⟩ = some (.int .i64 p.cl) := kp.cell 9
        have z10 : w12.cell? ⟨T2, 10, none⟩ = some (.int .i64 p.ky) := kp.cell 10
        have TX := hide (Text_c p rp dp w12 nr (by have := HG2.out; omega) hpo (HEB.out w12 HB12.out.1).pow (HEB.out w12 HB12.out.1).red)
        have HH := hide (And.intro hh hs)
        clear ba kp nr hw12 hT2 HB11 hpa hpo hpl hown hh hs
        go_upto_region 17 with (fail)
        rw [HW12.out, HT2.out]
        go_wp2_with fail
        refine TX.out.mono ?_
        rintro e w13 ⟨ht, hb13⟩
        obtain rfl := text_yes ht HH.out.1 HH.out.2
        have HBF := hide (HB12.out.1.trans (hb13.mono HB12.out.2))
        clear ht hb13
        go_wp2_with fail
        go_ret
        exact ⟨rfl, HBF.out⟩
    | false =>
      have HBy := HB8
      have PA := hide (Parse_c s w8 (HEB.out w8 HBy.out.1) (by have := HG2.out; omega))
      clear HB8 KC8
      go_wp2_with fail
      refine PA.out.mono ?_
      rintro e w11 ⟨hp, hb11⟩
      have HB11 := hide (And.intro (HBy.out.1.trans (hb11.mono HBy.out.2)) (Nat.le_trans HBy.out.2 hb11.size))
      clear hb11 PA HBy
      rcases hp with ⟨hn, rfl⟩ | ⟨p, rp, dp, hpa, hpo, hpl, rfl, hown⟩
      · clear hn
        rw [show zeroC.A none 0 = #[.int .u8 0, .int .i64 0, .int .i64 0, .int .i64 0, .int .i64 0, .int .i64 0, .int .i64 0, .int .u8 0, .slice none 0 0, .int .i64 0, .int .i64 0] from rfl]
        have ba := (Below.refl w11.heap.size w11).alloc (Nat.le_refl _) (.cells #[.int .u8 0, .int .i64 0, .int .i64 0, .int .i64 0, .int .i64 0, .int .i64 0, .int .i64 0, .int .u8 0, .slice none 0 0, .int .i64 0, .int .i64 0] 24)
        have kp := Blk.new w11 24 #[.int .u8 0, .int .i64 0, .int .i64 0, .int .i64 0, .int .i64 0, .int .i64 0, .int .i64 0, .int .u8 0, .slice none 0 0, .int .i64 0, .int .i64 0]
        obtain ⟨w12, hw12⟩ : ∃ y, w11.alloc (.cells #[.int .u8 0, .int .i64 0, .int .i64 0, .int .i64 0, .int .i64 0, .int .i64 0, .int .i64 0, .int .u8 0, .slice none 0 0, .int .i64 0, .int .i64 0] 24) = y := ⟨_, rfl⟩
        obtain ⟨T2, hT2⟩ : ∃ T, w11.heap.size = T := ⟨_, rfl⟩
        rw [hw12] at ba kp
        rw [hT2] at kp
        have HW12 := hide hw12
        have HT2 := hide hT2
        have HB12 := hide (And.intro (HB11.out.1.trans (ba.mono HB11.out.2)) (Nat.le_trans HB11.out.2 ba.size))
        have z0 : w12.cell? ⟨T2, 0, none⟩ = some (.int .u8 0) := kp.cell 0
        have z1 : w12.cell? ⟨T2, 1, none⟩ = some (.int .i64 0) := kp.cell 1
        have z2 : w12.cell? ⟨T2, 2, none⟩ = some (.int .i64 0) := kp.cell 2
        have z3 : w12.cell? ⟨T2, 3, none⟩ = some (.int .i64 0) := kp.cell 3
        have z4 : w12.cell? ⟨T2, 4, none⟩ = some (.int .i64 0) := kp.cell 4
        have z5 : w12.cell? ⟨T2, 5, none⟩ = some (.int .i64 0) := kp.cell 5
        have z6 : w12.cell? ⟨T2, 6, none⟩ = some (.int .i64 0) := kp.cell 6
        have z7 : w12.cell? ⟨T2, 7, none⟩ = some (.int .u8 0) := kp.cell 7
        have z8 : w12.cell? ⟨T2, 8, none⟩ = some (.slice none 0 0) := kp.cell 8
        have z9 : w12.cell? ⟨T2, 9, none⟩ = some (.int .i64 0) := kp.cell 9
        have z10 : w12.cell? ⟨T2, 10, none⟩ = some (.int .i64 0) := kp.cell 10
        have SM := hide (Same_b zeroC zeroC none none 0 0 w12 (fun h => absurd h (by decide)) (fun h => absurd h (by decide)) (by decide) (by decide))
        rw [decide_eq_true (rfl : zeroC = zeroC)] at SM
        clear ba kp hw12 hT2 HB11
        go_upto_region 17 with (fail)
        rw [HW12.out, HT2.out]
        go_wp2_with fail
        refine SM.out.mono ?_
        rintro e w13 ⟨rfl, hb13⟩
        have HBF := hide (HB12.out.1.trans (hb13.mono HB12.out.2))
        clear hb13
        go_wp2_with fail
        go_ret
        exact ⟨rfl, HBF.out⟩
      · obtain ⟨hh, hs⟩ : hasText p ∧ textOf p = s := by
          rcases hpa with ⟨p', e, _, h1, h2⟩ | ⟨e, _⟩
          · injection e with e; subst e; exact ⟨h1, h2⟩
          · cases e
        unfold Cl.A clA
        have ba := (Below.refl w11.heap.size w11).alloc (Nat.le_refl _) (.cells #[.int .u8 p.k, .int .i64 p.co, .int .i64 p.pe, .int .i64 p.tg, .int .i64 p.va, .int .i64 p.sz, .int .i64 p.ro, .int .u8 p.op, .slice rp p.rq.length dp, .int .i64 p.cl, .int .i64 p.ky] 24)
        have kp := Blk.new w11 24 #[.int .u8 p.k, .int .i64 p.co, .int .i64 p.pe, .int .i64 p.tg, .int .i64 p.va, .int .i64 p.sz, .int .i64 p.ro, .int .u8 p.op, .slice rp p.rq.length dp, .int .i64 p.cl, .int .i64 p.ky]
        have nr := (own_row hown rfl).below ba
        obtain ⟨w12, hw12⟩ : ∃ y, w11.alloc (.cells #[.int .u8 p.k, .int .i64 p.co, .int .i64 p.pe, .int .i64 p.tg, .int .i64 p.va, .int .i64 p.sz, .int .i64 p.ro, .int .u8 p.op, .slice rp p.rq.length dp, .int .i64 p.cl, .int .i64 p.ky] 24) = y := ⟨_, rfl⟩
        obtain ⟨T2, hT2⟩ : ∃ T, w11.heap.size = T := ⟨_, rfl⟩
        rw [hw12] at ba kp nr
        rw [hT2] at kp
        have HW12 := hide hw12
        have HT2 := hide hT2
        have HB12 := hide (And.intro (HB11.out.1.trans (ba.mono HB11.out.2)) (Nat.le_trans HB11.out.2 ba.size))
        have z0 : w12.cell? ⟨T2, 0, none⟩ = some (.int .u8 p.k) := kp.cell 0
        have z1 : w12.cell? ⟨T2, 1, none⟩ = some (.int .i64 p.co) := kp.cell 1
        have z2 : w12.cell? ⟨T2, 2, none⟩ = some (.int .i64 p.pe) := kp.cell 2
        have z3 : w12.cell? ⟨T2, 3, none⟩ = some (.int .i64 p.tg) := kp.cell 3
        have z4 : w12.cell? ⟨T2, 4, none⟩ = some (.int .i64 p.va) := kp.cell 4
        have z5 : w12.cell? ⟨T2, 5, none⟩ = some (.int .i64 p.sz) := kp.cell 5
        have z6 : w12.cell? ⟨T2, 6, none⟩ = some (.int .i64 p.ro) := kp.cell 6
        have z7 : w12.cell? ⟨T2, 7, none⟩ = some (.int .u8 p.op) := kp.cell 7
        have z8 : w12.cell? ⟨T2, 8, none⟩ = some (.slice rp p.rq.length dp) := kp.cell 8
        have z9 : w12.cell? ⟨T2, 9, none⟩ = some (.int .i64 p.cl) := kp.cell 9
        have z10 : w12.cell? ⟨T2, 10, none⟩ = some (.int .i64 p.ky) := kp.cell 10
        have TX := hide (Text_c p rp dp w12 nr (by have := HG2.out; omega) hpo (HEB.out w12 HB12.out.1).pow (HEB.out w12 HB12.out.1).red)
        have HH := hide (And.intro hh hs)
        clear ba kp nr hw12 hT2 HB11 hpa hpo hpl hown hh hs
        go_upto_region 17 with (fail)
        rw [HW12.out, HT2.out]
        go_wp2_with fail
        refine TX.out.mono ?_
        rintro e w13 ⟨ht, hb13⟩
        obtain rfl := text_yes ht HH.out.1 HH.out.2
        have HBF := hide (HB12.out.1.trans (hb13.mono HB12.out.2))
        clear ht hb13
        go_wp2_with fail
        go_ret
        exact ⟨rfl, HBF.out⟩
  · clear ht
    have HBz := HB4
    have KCz := KC4
    have KGz := KG4
    clear HB4 KC4 KG4
    have q0 : w4.cell? ⟨X, 0, none⟩ = some (.int .u8 c.k) := KCz.out.cell 0
    have q1 : w4.cell? ⟨X, 1, none⟩ = some (.int .i64 c.co) := KCz.out.cell 1
    have q2 : w4.cell? ⟨X, 2, none⟩ = some (.int .i64 c.pe) := KCz.out.cell 2
    have q3 : w4.cell? ⟨X, 3, none⟩ = some (.int .i64 c.tg) := KCz.out.cell 3
    have q4 : w4.cell? ⟨X, 4, none⟩ = some (.int .i64 c.va) := KCz.out.cell 4
    have q5 : w4.cell? ⟨X, 5, none⟩ = some (.int .i64 c.sz) := KCz.out.cell 5
    have q6 : w4.cell? ⟨X, 6, none⟩ = some (.int .i64 c.ro) := KCz.out.cell 6
    have q7 : w4.cell? ⟨X, 7, none⟩ = some (.int .u8 c.op) := KCz.out.cell 7
    have q8 : w4.cell? ⟨X, 8, none⟩ = some (.slice ra c.rq.length rc) := KCz.out.cell 8
    have q9 : w4.cell? ⟨X, 9, none⟩ = some (.int .i64 c.cl) := KCz.out.cell 9
    have q10 : w4.cell? ⟨X, 10, none⟩ = some (.int .i64 c.ky) := KCz.out.cell 10
    have g0 : w4.cell? ⟨Y, 0, none⟩ = some (.string key) := KGz.out.cell 0
    have g1 : w4.cell? ⟨Y, 1, none⟩ = some (.slice A l.length gc) := KGz.out.cell 1
    have MP := hide (May_p c ra rc key A gc l w4 (HRA.out w4 HBz.out.1) HRC.out (by have := HG1.out; omega) (HRG.out w4 HBz.out.1) (by have := HG3.out; omega))
    obtain ⟨bm, hbm⟩ : ∃ b, decide (mayC c l) = b := ⟨_, rfl⟩
    rw [hbm] at MP
    have HBM := hide hbm
    clear hbm
    go_wp2_with fail
    refine MP.out.mono ?_
    rintro e w8 ⟨rfl, hb8⟩
    have HB8 := hide (And.intro (HBz.out.1.trans (hb8.mono HBz.out.2)) (Nat.le_trans HBz.out.2 hb8.size))
    have KC8 := hide (KCz.out.below hb8 KCz.out.lt)
    clear hb8 MP KCz KGz HBz g0 g1 q0 q1 q2 q3 q4 q5 q6 q7 q8 q9 q10
    cases bm with
    | true =>
      have q0 : w8.cell? ⟨X, 0, none⟩ = some (.int .u8 c.k) := KC8.out.cell 0
      have q1 : w8.cell? ⟨X, 1, none⟩ = some (.int .i64 c.co) := KC8.out.cell 1
      have q2 : w8.cell? ⟨X, 2, none⟩ = some (.int .i64 c.pe) := KC8.out.cell 2
      have q3 : w8.cell? ⟨X, 3, none⟩ = some (.int .i64 c.tg) := KC8.out.cell 3
      have q4 : w8.cell? ⟨X, 4, none⟩ = some (.int .i64 c.va) := KC8.out.cell 4
      have q5 : w8.cell? ⟨X, 5, none⟩ = some (.int .i64 c.sz) := KC8.out.cell 5
      have q6 : w8.cell? ⟨X, 6, none⟩ = some (.int .i64 c.ro) := KC8.out.cell 6
      have q7 : w8.cell? ⟨X, 7, none⟩ = some (.int .u8 c.op) := KC8.out.cell 7
      have q8 : w8.cell? ⟨X, 8, none⟩ = some (.slice ra c.rq.length rc) := KC8.out.cell 8
      have q9 : w8.cell? ⟨X, 9, none⟩ = some (.int .i64 c.cl) := KC8.out.cell 9
      have q10 : w8.cell? ⟨X, 10, none⟩ = some (.int .i64 c.ky) := KC8.out.cell 10
      have TR := hide (Trim_a c ra rc w8 (HRA.out w8 HB8.out.1) (by have := HG1.out; omega) OK.out.op)
      have MT := hide (may_text (of_decide_eq_true HBM.out))
      have TOK := hide (trim_ok OK.out)
      have TRL : Hid ((trimC c).rq.length ≤ 1000) := hide (by
        show (if hasF c.k 7 then c.rq else []).length ≤ 1000
        have := HG1.out
        split
        · omega
        · exact Nat.zero_le _)
      go_wp2_with fail
      refine TR.out.mono ?_
      rintro e w9 ⟨rt, dt, rfl, hown, hb9⟩
      have HB9 := hide (And.intro (HB8.out.1.trans (hb9.mono HB8.out.2)) (Nat.le_trans HB8.out.2 hb9.size))
      have TX := hide (Text_c (trimC c) rt dt w9 (own_row hown rfl) TRL.out TOK.out (HEB.out w9 HB9.out.1).pow (HEB.out w9 HB9.out.1).red)
      clear hown hb9 TR HB8 KC8 q0 q1 q2 q3 q4 q5 q6 q7 q8 q9 q10
      unfold Cl.A clA
      go_wp2_with fail
      refine TX.out.mono ?_
      rintro e w10 ⟨ht, hb10⟩
      obtain rfl := text_yes ht MT.out rfl
      have HBy := hide (And.intro (HB9.out.1.trans (hb10.mono HB9.out.2)) (Nat.le_trans HB9.out.2 hb10.size))
      have TN := text_ne (trimC c)
      have PA := hide (Parse_c s w10 (HEB.out w10 HBy.out.1) (by have := HG2.out; omega))
      clear ht hb10 TX HB9
      go_wp2_with fail
      refine PA.out.mono ?_
      rintro e w11 ⟨hp, hb11⟩
      clear TN
      have HB11 := hide (And.intro (HBy.out.1.trans (hb11.mono HBy.out.2)) (Nat.le_trans HBy.out.2 hb11.size))
      clear hb11 PA HBy
      rcases hp with ⟨hn, rfl⟩ | ⟨p, rp, dp, hpa, hpo, hpl, rfl, hown⟩
      · clear hn
        rw [show zeroC.A none 0 = #[.int .u8 0, .int .i64 0, .int .i64 0, .int .i64 0, .int .i64 0, .int .i64 0, .int .i64 0, .int .u8 0, .slice none 0 0, .int .i64 0, .int .i64 0] from rfl]
        have ba := (Below.refl w11.heap.size w11).alloc (Nat.le_refl _) (.cells #[.int .u8 0, .int .i64 0, .int .i64 0, .int .i64 0, .int .i64 0, .int .i64 0, .int .i64 0, .int .u8 0, .slice none 0 0, .int .i64 0, .int .i64 0] 24)
        have kp := Blk.new w11 24 #[.int .u8 0, .int .i64 0, .int .i64 0, .int .i64 0, .int .i64 0, .int .i64 0, .int .i64 0, .int .u8 0, .slice none 0 0, .int .i64 0, .int .i64 0]
        obtain ⟨w12, hw12⟩ : ∃ y, w11.alloc (.cells #[.int .u8 0, .int .i64 0, .int .i64 0, .int .i64 0, .int .i64 0, .int .i64 0, .int .i64 0, .int .u8 0, .slice none 0 0, .int .i64 0, .int .i64 0] 24) = y := ⟨_, rfl⟩
        obtain ⟨T2, hT2⟩ : ∃ T, w11.heap.size = T := ⟨_, rfl⟩
        rw [hw12] at ba kp
        rw [hT2] at kp
        have HW12 := hide hw12
        have HT2 := hide hT2
        have HB12 := hide (And.intro (HB11.out.1.trans (ba.mono HB11.out.2)) (Nat.le_trans HB11.out.2 ba.size))
        have z0 : w12.cell? ⟨T2, 0, none⟩ = some (.int .u8 0) := kp.cell 0
        have z1 : w12.cell? ⟨T2, 1, none⟩ = some (.int .i64 0) := kp.cell 1
        have z2 : w12.cell? ⟨T2, 2, none⟩ = some (.int .i64 0) := kp.cell 2
        have z3 : w12.cell? ⟨T2, 3, none⟩ = some (.int .i64 0) := kp.cell 3
        have z4 : w12.cell? ⟨T2, 4, none⟩ = some (.int .i64 0) := kp.cell 4
        have z5 : w12.cell? ⟨T2, 5, none⟩ = some (.int .i64 0) := kp.cell 5
        have z6 : w12.cell? ⟨T2, 6, none⟩ = some (.int .i64 0) := kp.cell 6
        have z7 : w12.cell? ⟨T2, 7, none⟩ = some (.int .u8 0) := kp.cell 7
        have z8 : w12.cell? ⟨T2, 8, none⟩ = some (.slice none 0 0) := kp.cell 8
        have z9 : w12.cell? ⟨T2, 9, none⟩ = some (.int .i64 0) := kp.cell 9
        have z10 : w12.cell? ⟨T2, 10, none⟩ = some (.int .i64 0) := kp.cell 10
        have SM := hide (Same_b zeroC zeroC none none 0 0 w12 (fun h => absurd h (by decide)) (fun h => absurd h (by decide)) (by decide) (by decide))
        rw [decide_eq_true (rfl : zeroC = zeroC)] at SM
        clear ba kp hw12 hT2 HB11
        go_upto_region 17 with (fail)
        rw [HW12.out, HT2.out]
        go_wp2_with fail
        refine SM.out.mono ?_
        rintro e w13 ⟨rfl, hb13⟩
        have HBF := hide (HB12.out.1.trans (hb13.mono HB12.out.2))
        clear hb13
        go_wp2_with fail
        go_ret
        exact ⟨rfl, HBF.out⟩
      · obtain ⟨hh, hs⟩ : hasText p ∧ textOf p = s := by
          rcases hpa with ⟨p', e, _, h1, h2⟩ | ⟨e, _⟩
          · injection e with e; subst e; exact ⟨h1, h2⟩
          · cases e
        unfold Cl.A clA
        have ba := (Below.refl w11.heap.size w11).alloc (Nat.le_refl _) (.cells #[.int .u8 p.k, .int .i64 p.co, .int .i64 p.pe, .int .i64 p.tg, .int .i64 p.va, .int .i64 p.sz, .int .i64 p.ro, .int .u8 p.op, .slice rp p.rq.length dp, .int .i64 p.cl, .int .i64 p.ky] 24)
        have kp := Blk.new w11 24 #[.int .u8 p.k, .int .i64 p.co, .int .i64 p.pe, .int .i64 p.tg, .int .i64 p.va, .int .i64 p.sz, .int .i64 p.ro, .int .u8 p.op, .slice rp p.rq.length dp, .int .i64 p.cl, .int .i64 p.ky]
        have nr := (own_row hown rfl).below ba
        obtain ⟨w12, hw12⟩ : ∃ y, w11.alloc (.cells #[.int .u8 p.k, .int .i64 p.co, .int .i64 p.pe, .int .i64 p.tg, .int .i64 p.va, .int .i64 p.sz, .int .i64 p.ro, .int .u8 p.op, .slice rp p.rq.length dp, .int .i64 p.cl, .int .i64 p.ky] 24) = y := ⟨_, rfl⟩
        obtain ⟨T2, hT2⟩ : ∃ T, w11.heap.size = T := ⟨_, rfl⟩
        rw [hw12] at ba kp nr
        rw [hT2] at kp
        have HW12 := hide hw12
        have HT2 := hide hT2
        have HB12 := hide (And.intro (HB11.out.1.trans (ba.mono HB11.out.2)) (Nat.le_trans HB11.out.2 ba.size))
        have z0 : w12.cell? ⟨T2, 0, none⟩ = some (.int .u8 p.k) := kp.cell 0
        have z1 : w12.cell? ⟨T2, 1, none⟩ = some (.int .i64 p.co) := kp.cell 1
        have z2 : w12.cell? ⟨T2, 2, none⟩ = some (.int .i64 p.pe) := kp.cell 2
        have z3 : w12.cell? ⟨T2, 3, none⟩ = some (.int .i64 p.tg) := kp.cell 3
        have z4 : w12.cell? ⟨T2, 4, none⟩ = some (.int .i64 p.va) := kp.cell 4
        have z5 : w12.cell? ⟨T2, 5, none⟩ = some (.int .i64 p.sz) := kp.cell 5
        have z6 : w12.cell? ⟨T2, 6, none⟩ = some (.int .i64 p.ro) := kp.cell 6
        have z7 : w12.cell? ⟨T2, 7, none⟩ = some (.int .u8 p.op) := kp.cell 7
        have z8 : w12.cell? ⟨T2, 8, none⟩ = some (.slice rp p.rq.length dp) := kp.cell 8
        have z9 : w12.cell? ⟨T2, 9, none⟩ = some (.int .i64 p.cl) := kp.cell 9
        have z10 : w12.cell? ⟨T2, 10, none⟩ = some (.int .i64 p.ky) := kp.cell 10
        have TX := hide (Text_c p rp dp w12 nr (by have := HG2.out; omega) hpo (HEB.out w12 HB12.out.1).pow (HEB.out w12 HB12.out.1).red)
        have HH := hide (And.intro hh hs)
        clear ba kp nr hw12 hT2 HB11 hpa hpo hpl hown hh hs
        go_upto_region 17 with (fail)
        rw [HW12.out, HT2.out]
        go_wp2_with fail
        refine TX.out.mono ?_
        rintro e w13 ⟨ht, hb13⟩
        obtain rfl := text_yes ht HH.out.1 HH.out.2
        have HBF := hide (HB12.out.1.trans (hb13.mono HB12.out.2))
        clear ht hb13
        go_wp2_with fail
        go_ret
        exact ⟨rfl, HBF.out⟩
    | false =>
      have HBy := HB8
      have PA := hide (Parse_c s w8 (HEB.out w8 HBy.out.1) (by have := HG2.out; omega))
      clear HB8 KC8
      go_wp2_with fail
      refine PA.out.mono ?_
      rintro e w11 ⟨hp, hb11⟩
      have HB11 := hide (And.intro (HBy.out.1.trans (hb11.mono HBy.out.2)) (Nat.le_trans HBy.out.2 hb11.size))
      clear hb11 PA HBy
      rcases hp with ⟨hn, rfl⟩ | ⟨p, rp, dp, hpa, hpo, hpl, rfl, hown⟩
      · clear hn
        rw [show zeroC.A none 0 = #[.int .u8 0, .int .i64 0, .int .i64 0, .int .i64 0, .int .i64 0, .int .i64 0, .int .i64 0, .int .u8 0, .slice none 0 0, .int .i64 0, .int .i64 0] from rfl]
        have ba := (Below.refl w11.heap.size w11).alloc (Nat.le_refl _) (.cells #[.int .u8 0, .int .i64 0, .int .i64 0, .int .i64 0, .int .i64 0, .int .i64 0, .int .i64 0, .int .u8 0, .slice none 0 0, .int .i64 0, .int .i64 0] 24)
        have kp := Blk.new w11 24 #[.int .u8 0, .int .i64 0, .int .i64 0, .int .i64 0, .int .i64 0, .int .i64 0, .int .i64 0, .int .u8 0, .slice none 0 0, .int .i64 0, .int .i64 0]
        obtain ⟨w12, hw12⟩ : ∃ y, w11.alloc (.cells #[.int .u8 0, .int .i64 0, .int .i64 0, .int .i64 0, .int .i64 0, .int .i64 0, .int .i64 0, .int .u8 0, .slice none 0 0, .int .i64 0, .int .i64 0] 24) = y := ⟨_, rfl⟩
        obtain ⟨T2, hT2⟩ : ∃ T, w11.heap.size = T := ⟨_, rfl⟩
        rw [hw12] at ba kp
        rw [hT2] at kp
        have HW12 := hide hw12
        have HT2 := hide hT2
        have HB12 := hide (And.intro (HB11.out.1.trans (ba.mono HB11.out.2)) (Nat.le_trans HB11.out.2 ba.size))
        have z0 : w12.cell? ⟨T2, 0, none⟩ = some (.int .u8 0) := kp.cell 0
        have z1 : w12.cell? ⟨T2, 1, none⟩ = some (.int .i64 0) := kp.cell 1
        have z2 : w12.cell? ⟨T2, 2, none⟩ = some (.int .i64 0) := kp.cell 2
        have z3 : w12.cell? ⟨T2, 3, none⟩ = some (.int .i64 0) := kp.cell 3
        have z4 : w12.cell? ⟨T2, 4, none⟩ = some (.int .i64 0) := kp.cell 4
        have z5 : w12.cell? ⟨T2, 5, none⟩ = some (.int .i64 0) := kp.cell 5
        have z6 : w12.cell? ⟨T2, 6, none⟩ = some (.int .i64 0) := kp.cell 6
        have z7 : w12.cell? ⟨T2, 7, none⟩ = some (.int .u8 0) := kp.cell 7
        have z8 : w12.cell? ⟨T2, 8, none⟩ = some (.slice none 0 0) := kp.cell 8
        have z9 : w12.cell? ⟨T2, 9, none⟩ = some (.int .i64 0) := kp.cell 9
        have z10 : w12.cell? ⟨T2, 10, none⟩ = some (.int .i64 0) := kp.cell 10
        have SM := hide (Same_b zeroC zeroC none none 0 0 w12 (fun h => absurd h (by decide)) (fun h => absurd h (by decide)) (by decide) (by decide))
        rw [decide_eq_true (rfl : zeroC = zeroC)] at SM
        clear ba kp hw12 hT2 HB11
        go_upto_region 17 with (fail)
        rw [HW12.out, HT2.out]
        go_wp2_with fail
        refine SM.out.mono ?_
        rintro e w13 ⟨rfl, hb13⟩
        have HBF := hide (HB12.out.1.trans (hb13.mono HB12.out.2))
        clear hb13
        go_wp2_with fail
        go_ret
        exact ⟨rfl, HBF.out⟩
      · obtain ⟨hh, hs⟩ : hasText p ∧ textOf p = s := by
          rcases hpa with ⟨p', e, _, h1, h2⟩ | ⟨e, _⟩
          · injection e with e; subst e; exact ⟨h1, h2⟩
          · cases e
        unfold Cl.A clA
        have ba := (Below.refl w11.heap.size w11).alloc (Nat.le_refl _) (.cells #[.int .u8 p.k, .int .i64 p.co, .int .i64 p.pe, .int .i64 p.tg, .int .i64 p.va, .int .i64 p.sz, .int .i64 p.ro, .int .u8 p.op, .slice rp p.rq.length dp, .int .i64 p.cl, .int .i64 p.ky] 24)
        have kp := Blk.new w11 24 #[.int .u8 p.k, .int .i64 p.co, .int .i64 p.pe, .int .i64 p.tg, .int .i64 p.va, .int .i64 p.sz, .int .i64 p.ro, .int .u8 p.op, .slice rp p.rq.length dp, .int .i64 p.cl, .int .i64 p.ky]
        have nr := (own_row hown rfl).below ba
        obtain ⟨w12, hw12⟩ : ∃ y, w11.alloc (.cells #[.int .u8 p.k, .int .i64 p.co, .int .i64 p.pe, .int .i64 p.tg, .int .i64 p.va, .int .i64 p.sz, .int .i64 p.ro, .int .u8 p.op, .slice rp p.rq.length dp, .int .i64 p.cl, .int .i64 p.ky] 24) = y := ⟨_, rfl⟩
        obtain ⟨T2, hT2⟩ : ∃ T, w11.heap.size = T := ⟨_, rfl⟩
        rw [hw12] at ba kp nr
        rw [hT2] at kp
        have HW12 := hide hw12
        have HT2 := hide hT2
        have HB12 := hide (And.intro (HB11.out.1.trans (ba.mono HB11.out.2)) (Nat.le_trans HB11.out.2 ba.size))
        have z0 : w12.cell? ⟨T2, 0, none⟩ = some (.int .u8 p.k) := kp.cell 0
        have z1 : w12.cell? ⟨T2, 1, none⟩ = some (.int .i64 p.co) := kp.cell 1
        have z2 : w12.cell? ⟨T2, 2, none⟩ = some (.int .i64 p.pe) := kp.cell 2
        have z3 : w12.cell? ⟨T2, 3, none⟩ = some (.int .i64 p.tg) := kp.cell 3
        have z4 : w12.cell? ⟨T2, 4, none⟩ = some (.int .i64 p.va) := kp.cell 4
        have z5 : w12.cell? ⟨T2, 5, none⟩ = some (.int .i64 p.sz) := kp.cell 5
        have z6 : w12.cell? ⟨T2, 6, none⟩ = some (.int .i64 p.ro) := kp.cell 6
        have z7 : w12.cell? ⟨T2, 7, none⟩ = some (.int .u8 p.op) := kp.cell 7
        have z8 : w12.cell? ⟨T2, 8, none⟩ = some (.slice rp p.rq.length dp) := kp.cell 8
        have z9 : w12.cell? ⟨T2, 9, none⟩ = some (.int .i64 p.cl) := kp.cell 9
        have z10 : w12.cell? ⟨T2, 10, none⟩ = some (.int .i64 p.ky) := kp.cell 10
        have TX := hide (Text_c p rp dp w12 nr (by have := HG2.out; omega) hpo (HEB.out w12 HB12.out.1).pow (HEB.out w12 HB12.out.1).red)
        have HH := hide (And.intro hh hs)
        clear ba kp nr hw12 hT2 HB11 hpa hpo hpl hown hh hs
        go_upto_region 17 with (fail)
        rw [HW12.out, HT2.out]
        go_wp2_with fail
        refine TX.out.mono ?_
        rintro e w13 ⟨ht, hb13⟩
        obtain rfl := text_yes ht HH.out.1 HH.out.2
        have HBF := hide (HB12.out.1.trans (hb13.mono HB12.out.2))
        clear ht hb13
        go_wp2_with fail
        go_ret
        exact ⟨rfl, HBF.out⟩
end Go.Proofs.YthcoelkpiflfeaaDoor.CallBackW
