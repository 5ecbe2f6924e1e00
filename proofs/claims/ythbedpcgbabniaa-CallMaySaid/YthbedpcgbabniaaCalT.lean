/- Whether a call may be: the document (recv, send). -/
import Derived.Test.YthbedpcgbabniaaRows
import Derived.Test.YthbedpcgbabniaaCalR
import Derived.Test.YthbedpcgbabniaaCalN
namespace Go.Proofs.Ythbedpcgbabniaa
open Go Go.RowKit Go.Lib Go.Proofs.Ythbedpcgbabniaa.Grp
set_option linter.unusedVariables false
set_option linter.unusedSimpArgs false
namespace Cal
set_option maxRecDepth 100000 in
set_option maxHeartbeats 16000000 in
theorem mayB_recv (c : Cl) (ra : Option Addr) (rc : Nat) (key : ByteArray) (A : Option Addr) (gc : Nat) (l : List Int) (w : World) (hS : usesS c.k = #[99, 112, 116]) (hU : usedL c.k = [0, 1, 2]) (hWK : wildK c.k) (hg : NRow w A l) (hgl : l.length ≤ 1000) :
    Calls Try.prog 8 #[.agg #[.int .u8 c.k, .int .i64 c.co, .int .i64 c.pe, .int .i64 c.tg, .int .i64 c.va, .int .i64 c.sz, .int .i64 c.ro, .int .u8 c.op, .slice ra c.rq.length rc, .int .i64 c.cl, .int .i64 c.ky], .agg #[.string key, .slice A l.length gc]] w fun e w' => e = .returned (.bool (decide (mayC c l))) ∧ Below w.heap.size w w' := by
  have US := hide (fun (w1 : World) => uses_b c.k w1)
  rw [hS] at US
  have eS : ((⟨#[99, 112, 116]⟩ : ByteArray) == (⟨#[]⟩ : ByteArray)) = false := by rfl
  have eC : ((⟨#[99, 112, 116]⟩ : ByteArray) == (⟨#[99, 112, 116]⟩ : ByteArray)) = true := by rfl
  have H99 := hide (fun w1 => has_yes hS 99 99 rfl (b := true) (by decide) w1)
  have H112 := hide (fun w1 => has_yes hS 112 112 rfl (b := true) (by decide) w1)
  have H116 := hide (fun w1 => has_yes hS 116 116 rfl (b := true) (by decide) w1)
  have H115 := hide (fun w1 => has_yes hS 115 115 rfl (b := false) (by decide) w1)
  have H114 := hide (fun w1 => has_yes hS 114 114 rfl (b := false) (by decide) w1)
  have H111 := hide (fun w1 => has_yes hS 111 111 rfl (b := false) (by decide) w1)
  have H108 := hide (fun w1 => has_yes hS 108 108 rfl (b := false) (by decide) w1)
  have k1 := Blk.new w 24 #[.int .u8 c.k, .int .i64 c.co, .int .i64 c.pe, .int .i64 c.tg, .int .i64 c.va, .int .i64 c.sz, .int .i64 c.ro, .int .u8 c.op, .slice ra c.rq.length rc, .int .i64 c.cl, .int .i64 c.ky]
  have k2 := Blk.new (w.alloc (.cells #[.int .u8 c.k, .int .i64 c.co, .int .i64 c.pe, .int .i64 c.tg, .int .i64 c.va, .int .i64 c.sz, .int .i64 c.ro, .int .u8 c.op, .slice ra c.rq.length rc, .int .i64 c.cl, .int .i64 c.ky] 24)) 26 #[.string key, .slice A l.length gc]
  have k1b := k1.below ((Below.refl _ _).alloc (Nat.le_refl _) (.cells #[.string key, .slice A l.length gc] 26)) k1.lt
  rw [show (w.alloc (.cells #[.int .u8 c.k, .int .i64 c.co, .int .i64 c.pe, .int .i64 c.tg, .int .i64 c.va, .int .i64 c.sz, .int .i64 c.ro, .int .u8 c.op, .slice ra c.rq.length rc, .int .i64 c.cl, .int .i64 c.ky] 24)).heap.size = w.heap.size + 1 by simp] at k2
  have b2 := ((Below.refl w.heap.size w).alloc (Nat.le_refl _) (.cells #[.int .u8 c.k, .int .i64 c.co, .int .i64 c.pe, .int .i64 c.tg, .int .i64 c.va, .int .i64 c.sz, .int .i64 c.ro, .int .u8 c.op, .slice ra c.rq.length rc, .int .i64 c.cl, .int .i64 c.ky] 24)).alloc (by simp) (.cells #[.string key, .slice A l.length gc] 26)
  have HB := hide b2
  have GM := hide (fun (w1 : World) (h : Below w.heap.size w w1) => mayGroup_b key A gc l w1 (hg.below h) hgl)
  have K1 := hide k1b
  have K2 := hide k2
  obtain ⟨bo, hbo⟩ : ∃ b, decide (mayC c l) = b := ⟨_, rfl⟩
  rw [hbo]
  have HT : Hid (mayC c l → bo = true) := hide (fun h => by rw [← hbo]; exact decide_eq_true h)
  have HF : Hid (¬ mayC c l → bo = false) := hide (fun h => by rw [← hbo]; exact decide_eq_false h)
  have HU := hide hU
  have HWK := hide hWK
  clear k1 k1b k2 b2 hbo hg hgl hS hU hWK
  go_enter Try.func8, Try.ntmps8
  go_wp2_with fail
  refine (US.out _).mono ?_
  rintro e w' ⟨rfl, rfl⟩
  go_wp2_with fail
  refine (GM.out _ HB.out).mono ?_
  rintro e w4 ⟨rfl, hb4⟩
  have HW4 := hide (HB.out.trans (hb4.mono HB.out.size))
  have KA := K1.out.below hb4 K1.out.lt
  have KB := K2.out.below hb4 K2.out.lt
  have x0 : w4.cell? ⟨w.heap.size, 0, none⟩ = some (.int .u8 c.k) := KA.cell 0
  have x1 : w4.cell? ⟨w.heap.size, 1, none⟩ = some (.int .i64 c.co) := KA.cell 1
  have x2 : w4.cell? ⟨w.heap.size, 2, none⟩ = some (.int .i64 c.pe) := KA.cell 2
  have x3 : w4.cell? ⟨w.heap.size, 3, none⟩ = some (.int .i64 c.tg) := KA.cell 3
  have x5 : w4.cell? ⟨w.heap.size, 5, none⟩ = some (.int .i64 c.sz) := KA.cell 5
  have x6 : w4.cell? ⟨w.heap.size, 6, none⟩ = some (.int .i64 c.ro) := KA.cell 6
  have x7 : w4.cell? ⟨w.heap.size, 7, none⟩ = some (.int .u8 c.op) := KA.cell 7
  have y1 : w4.cell? ⟨w.heap.size + 1, 1, none⟩ = some (.slice A l.length gc) := KB.cell 1
  by_cases hm : mayL l
  rotate_left
  · rw [decide_eq_false hm]
    have R : bo = false := HF.out fun h => hm h.1
    subst R
    clear hb4 KA KB
    go_wp2_with fail
    go_ret
    exact ⟨rfl, HW4.out⟩
  rw [decide_eq_true hm]
  have HM := hide hm
  have HN1 := hide hm.1
  clear hm hb4 KA KB
  go_wp2_with fail
  refine (US.out _).mono ?_
  rintro e w' ⟨rfl, rfl⟩
  go_wp2_with fail
  refine (H99.out _).mono ?_
  rintro e w' ⟨rfl, rfl⟩
  by_cases q1 : c.co < 0
  · have R : bo = false := HF.out (not_may HU.out (f := 0) (by decide) (fun h => by have h := mF0.1 h; omega))
    subst R
    go_wp2_with fail
    go_ret
    exact ⟨rfl, HW4.out⟩
  by_cases q2 : 31 < c.co
  · have R : bo = false := HF.out (not_may HU.out (f := 0) (by decide) (fun h => by have h := mF0.1 h; omega))
    subst R
    go_wp2_with fail
    go_ret
    exact ⟨rfl, HW4.out⟩
  go_wp2_with fail
  refine (H112.out _).mono ?_
  rintro e w' ⟨rfl, rfl⟩
  by_cases q3 : c.pe < (-1)
  · have R : bo = false := HF.out (not_may HU.out (f := 1) (by decide) (fun h => by
        have hn1 := HN1.out
        rcases mF1.1 h with h | h
        · omega
        · omega))
    subst R
    go_wp2_with fail
    go_ret
    exact ⟨rfl, HW4.out⟩
  by_cases q4 : (l.length : Int) ≤ c.pe
  · have R : bo = false := HF.out (not_may HU.out (f := 1) (by decide) (fun h => by
        have hn1 := HN1.out
        rcases mF1.1 h with h | h
        · omega
        · omega))
    subst R
    go_wp2_with fail
    go_ret
    exact ⟨rfl, HW4.out⟩
  go_wp2_with fail
  refine (H116.out _).mono ?_
  rintro e w' ⟨rfl, rfl⟩
  by_cases q5 : c.tg < (-1)
  · have R : bo = false := HF.out (not_may HU.out (f := 2) (by decide) (fun h => by
        have hn1 := HN1.out
        rcases mF2.1 h with h | h
        · omega
        · omega))
    subst R
    go_wp2_with fail
    go_ret
    exact ⟨rfl, HW4.out⟩
  by_cases q6 : 32767 < c.tg
  · have R : bo = false := HF.out (not_may HU.out (f := 2) (by decide) (fun h => by
        have hn1 := HN1.out
        rcases mF2.1 h with h | h
        · omega
        · omega))
    subst R
    go_wp2_with fail
    go_ret
    exact ⟨rfl, HW4.out⟩
  go_wp2_with fail
  refine (H115.out _).mono ?_
  rintro e w' ⟨rfl, rfl⟩
  go_wp2_with fail
  refine (H114.out _).mono ?_
  rintro e w' ⟨rfl, rfl⟩
  go_wp2_with fail
  refine (H111.out _).mono ?_
  rintro e w' ⟨rfl, rfl⟩
  go_wp2_with fail
  refine (H108.out _).mono ?_
  rintro e w' ⟨rfl, rfl⟩
  have R : bo = true := HT.out ⟨HM.out, by rw [HU.out]; simp, fun f hf => by
    rw [HU.out] at hf
    simp only [List.mem_cons, List.not_mem_nil, or_false] at hf
    rcases hf with rfl | rfl | rfl
    · exact mF0.2 (by omega)
    · refine mF1.2 ?_
      by_cases hz : c.pe = -1
      · exact .inr ⟨HWK.out, hz⟩
      · exact .inl (by omega)
    · refine mF2.2 ?_
      by_cases hz : c.tg = -1
      · exact .inr ⟨HWK.out, hz⟩
      · exact .inl (by omega)⟩
  subst R
  go_wp2_with fail
  go_ret
  exact ⟨rfl, HW4.out⟩
set_option maxRecDepth 100000 in
set_option maxHeartbeats 16000000 in
theorem mayB_send (c : Cl) (ra : Option Addr) (rc : Nat) (key : ByteArray) (A : Option Addr) (gc : Nat) (l : List Int) (w : World) (hS : usesS c.k = #[99, 112, 116, 118, 115]) (hU : usedL c.k = [0, 1, 2, 3, 4]) (hWK : ¬ wildK c.k) (hg : NRow w A l) (hgl : l.length ≤ 1000) :
    Calls Try.prog 8 #[.agg #[.int .u8 c.k, .int .i64 c.co, .int .i64 c.pe, .int .i64 c.tg, .int .i64 c.va, .int .i64 c.sz, .int .i64 c.ro, .int .u8 c.op, .slice ra c.rq.length rc, .int .i64 c.cl, .int .i64 c.ky], .agg #[.string key, .slice A l.length gc]] w fun e w' => e = .returned (.bool (decide (mayC c l))) ∧ Below w.heap.size w w' := by
  have US := hide (fun (w1 : World) => uses_b c.k w1)
  rw [hS] at US
  have eS : ((⟨#[99, 112, 116, 118, 115]⟩ : ByteArray) == (⟨#[]⟩ : ByteArray)) = false := by rfl
  have eC : ((⟨#[99, 112, 116, 118, 115]⟩ : ByteArray) == (⟨#[99, 112, 116]⟩ : ByteArray)) = false := by rfl
  have H99 := hide (fun w1 => has_yes hS 99 99 rfl (b := true) (by decide) w1)
  have H112 := hide (fun w1 => has_yes hS 112 112 rfl (b := true) (by decide) w1)
  have H116 := hide (fun w1 => has_yes hS 116 116 rfl (b := true) (by decide) w1)
  have H115 := hide (fun w1 => has_yes hS 115 115 rfl (b := true) (by decide) w1)
  have H114 := hide (fun w1 => has_yes hS 114 114 rfl (b := false) (by decide) w1)
  have H111 := hide (fun w1 => has_yes hS 111 111 rfl (b := false) (by decide) w1)
  have H108 := hide (fun w1 => has_yes hS 108 108 rfl (b := false) (by decide) w1)
  have k1 := Blk.new w 24 #[.int .u8 c.k, .int .i64 c.co, .int .i64 c.pe, .int .i64 c.tg, .int .i64 c.va, .int .i64 c.sz, .int .i64 c.ro, .int .u8 c.op, .slice ra c.rq.length rc, .int .i64 c.cl, .int .i64 c.ky]
  have k2 := Blk.new (w.alloc (.cells #[.int .u8 c.k, .int .i64 c.co, .int .i64 c.pe, .int .i64 c.tg, .int .i64 c.va, .int .i64 c.sz, .int .i64 c.ro, .int .u8 c.op, .slice ra c.rq.length rc, .int .i64 c.cl, .int .i64 c.ky] 24)) 26 #[.string key, .slice A l.length gc]
  have k1b := k1.below ((Below.refl _ _).alloc (Nat.le_refl _) (.cells #[.string key, .slice A l.length gc] 26)) k1.lt
  rw [show (w.alloc (.cells #[.int .u8 c.k, .int .i64 c.co, .int .i64 c.pe, .int .i64 c.tg, .int .i64 c.va, .int .i64 c.sz, .int .i64 c.ro, .int .u8 c.op, .slice ra c.rq.length rc, .int .i64 c.cl, .int .i64 c.ky] 24)).heap.size = w.heap.size + 1 by simp] at k2
  have b2 := ((Below.refl w.heap.size w).alloc (Nat.le_refl _) (.cells #[.int .u8 c.k, .int .i64 c.co, .int .i64 c.pe, .int .i64 c.tg, .int .i64 c.va, .int .i64 c.sz, .int .i64 c.ro, .int .u8 c.op, .slice ra c.rq.length rc, .int .i64 c.cl, .int .i64 c.ky] 24)).alloc (by simp) (.cells #[.string key, .slice A l.length gc] 26)
  have HB := hide b2
  have GM := hide (fun (w1 : World) (h : Below w.heap.size w w1) => mayGroup_b key A gc l w1 (hg.below h) hgl)
  have K1 := hide k1b
  have K2 := hide k2
  obtain ⟨bo, hbo⟩ : ∃ b, decide (mayC c l) = b := ⟨_, rfl⟩
  rw [hbo]
  have HT : Hid (mayC c l → bo = true) := hide (fun h => by rw [← hbo]; exact decide_eq_true h)
  have HF : Hid (¬ mayC c l → bo = false) := hide (fun h => by rw [← hbo]; exact decide_eq_false h)
  have HU := hide hU
  have HWK := hide hWK
  clear k1 k1b k2 b2 hbo hg hgl hS hU hWK
  go_enter Try.func8, Try.ntmps8
  go_wp2_with fail
  refine (US.out _).mono ?_
  rintro e w' ⟨rfl, rfl⟩
  go_wp2_with fail
  refine (GM.out _ HB.out).mono ?_
  rintro e w4 ⟨rfl, hb4⟩
  have HW4 := hide (HB.out.trans (hb4.mono HB.out.size))
  have KA := K1.out.below hb4 K1.out.lt
  have KB := K2.out.below hb4 K2.out.lt
  have x0 : w4.cell? ⟨w.heap.size, 0, none⟩ = some (.int .u8 c.k) := KA.cell 0
  have x1 : w4.cell? ⟨w.heap.size, 1, none⟩ = some (.int .i64 c.co) := KA.cell 1
  have x2 : w4.cell? ⟨w.heap.size, 2, none⟩ = some (.int .i64 c.pe) := KA.cell 2
  have x3 : w4.cell? ⟨w.heap.size, 3, none⟩ = some (.int .i64 c.tg) := KA.cell 3
  have x5 : w4.cell? ⟨w.heap.size, 5, none⟩ = some (.int .i64 c.sz) := KA.cell 5
  have x6 : w4.cell? ⟨w.heap.size, 6, none⟩ = some (.int .i64 c.ro) := KA.cell 6
  have x7 : w4.cell? ⟨w.heap.size, 7, none⟩ = some (.int .u8 c.op) := KA.cell 7
  have y1 : w4.cell? ⟨w.heap.size + 1, 1, none⟩ = some (.slice A l.length gc) := KB.cell 1
  by_cases hm : mayL l
  rotate_left
  · rw [decide_eq_false hm]
    have R : bo = false := HF.out fun h => hm h.1
    subst R
    clear hb4 KA KB
    go_wp2_with fail
    go_ret
    exact ⟨rfl, HW4.out⟩
  rw [decide_eq_true hm]
  have HM := hide hm
  have HN1 := hide hm.1
  clear hm hb4 KA KB
  go_wp2_with fail
  refine (US.out _).mono ?_
  rintro e w' ⟨rfl, rfl⟩
  go_wp2_with fail
  refine (H99.out _).mono ?_
  rintro e w' ⟨rfl, rfl⟩
  by_cases q1 : c.co < 0
  · have R : bo = false := HF.out (not_may HU.out (f := 0) (by decide) (fun h => by have h := mF0.1 h; omega))
    subst R
    go_wp2_with fail
    go_ret
    exact ⟨rfl, HW4.out⟩
  by_cases q2 : 31 < c.co
  · have R : bo = false := HF.out (not_may HU.out (f := 0) (by decide) (fun h => by have h := mF0.1 h; omega))
    subst R
    go_wp2_with fail
    go_ret
    exact ⟨rfl, HW4.out⟩
  go_wp2_with fail
  refine (H112.out _).mono ?_
  rintro e w' ⟨rfl, rfl⟩
  by_cases q3 : c.pe < 0
  · have R : bo = false := HF.out (not_may HU.out (f := 1) (by decide) (fun h => by
        have hn1 := HN1.out
        rcases mF1.1 h with h | h
        · omega
        · exact HWK.out h.1))
    subst R
    go_wp2_with fail
    go_ret
    exact ⟨rfl, HW4.out⟩
  by_cases q4 : (l.length : Int) ≤ c.pe
  · have R : bo = false := HF.out (not_may HU.out (f := 1) (by decide) (fun h => by
        have hn1 := HN1.out
        rcases mF1.1 h with h | h
        · omega
        · exact HWK.out h.1))
    subst R
    go_wp2_with fail
    go_ret
    exact ⟨rfl, HW4.out⟩
  go_wp2_with fail
  refine (H116.out _).mono ?_
  rintro e w' ⟨rfl, rfl⟩
  by_cases q5 : c.tg < 0
  · have R : bo = false := HF.out (not_may HU.out (f := 2) (by decide) (fun h => by
        have hn1 := HN1.out
        rcases mF2.1 h with h | h
        · omega
        · exact HWK.out h.1))
    subst R
    go_wp2_with fail
    go_ret
    exact ⟨rfl, HW4.out⟩
  by_cases q6 : 32767 < c.tg
  · have R : bo = false := HF.out (not_may HU.out (f := 2) (by decide) (fun h => by
        have hn1 := HN1.out
        rcases mF2.1 h with h | h
        · omega
        · exact HWK.out h.1))
    subst R
    go_wp2_with fail
    go_ret
    exact ⟨rfl, HW4.out⟩
  go_wp2_with fail
  refine (H115.out _).mono ?_
  rintro e w' ⟨rfl, rfl⟩
  by_cases q7 : c.sz < 1
  · have R : bo = false := HF.out (not_may HU.out (f := 4) (by decide) (fun h => by have h := mF4.1 h; omega))
    subst R
    go_wp2_with fail
    go_ret
    exact ⟨rfl, HW4.out⟩
  by_cases q8 : 64 < c.sz
  · have R : bo = false := HF.out (not_may HU.out (f := 4) (by decide) (fun h => by have h := mF4.1 h; omega))
    subst R
    go_wp2_with fail
    go_ret
    exact ⟨rfl, HW4.out⟩
  go_wp2_with fail
  refine (H114.out _).mono ?_
  rintro e w' ⟨rfl, rfl⟩
  go_wp2_with fail
  refine (H111.out _).mono ?_
  rintro e w' ⟨rfl, rfl⟩
  go_wp2_with fail
  refine (H108.out _).mono ?_
  rintro e w' ⟨rfl, rfl⟩
  have R : bo = true := HT.out ⟨HM.out, by rw [HU.out]; simp, fun f hf => by
    rw [HU.out] at hf
    simp only [List.mem_cons, List.not_mem_nil, or_false] at hf
    rcases hf with rfl | rfl | rfl | rfl | rfl
    · exact mF0.2 (by omega)
    · exact mF1.2 (.inl (by omega))
    · exact mF2.2 (.inl (by omega))
    · exact mF3
    · exact mF4.2 (by omega)⟩
  subst R
  go_wp2_with fail
  go_ret
  exact ⟨rfl, HW4.out⟩
end Cal
end Go.Proofs.Ythbedpcgbabniaa
