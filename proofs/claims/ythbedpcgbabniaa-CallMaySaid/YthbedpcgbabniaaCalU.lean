/- Whether a call may be: the document (requests; no kind). -/
import Derived.Test.YthbedpcgbabniaaRows
import Derived.Test.YthbedpcgbabniaaCalR
import Derived.BigQuiet
namespace Go.Proofs.Ythbedpcgbabniaa
open Go Go.RowKit Go.Lib Go.Proofs.Ythbedpcgbabniaa.Grp
set_option linter.unusedVariables false
set_option linter.unusedSimpArgs false
namespace Cal
set_option maxRecDepth 100000 in
set_option maxHeartbeats 8000000 in
theorem mayB_none (c : Cl) (ra : Option Addr) (rc : Nat) (key : ByteArray) (A : Option Addr) (gc : Nat) (l : List Int) (w : World) (hS : usesS c.k = #[]) (hU : usedL c.k = []) :
    Calls Try.prog 8 #[.agg #[.int .u8 c.k, .int .i64 c.co, .int .i64 c.pe, .int .i64 c.tg, .int .i64 c.va, .int .i64 c.sz, .int .i64 c.ro, .int .u8 c.op, .slice ra c.rq.length rc, .int .i64 c.cl, .int .i64 c.ky], .agg #[.string key, .slice A l.length gc]] w fun e w' => e = .returned (.bool (decide (mayC c l))) ∧ Below w.heap.size w w' := by
  rw [decide_eq_false (fun h : mayC c l => h.2.1 hU)]
  have US := hide (fun (w1 : World) => uses_b c.k w1)
  rw [hS] at US
  have eS : ((⟨#[]⟩ : ByteArray) == (⟨#[]⟩ : ByteArray)) = true := by rfl
  have HB := hide (((Below.refl w.heap.size w).alloc (Nat.le_refl _) (.cells #[.int .u8 c.k, .int .i64 c.co, .int .i64 c.pe, .int .i64 c.tg, .int .i64 c.va, .int .i64 c.sz, .int .i64 c.ro, .int .u8 c.op, .slice ra c.rq.length rc, .int .i64 c.cl, .int .i64 c.ky] 24)).alloc (by simp) (.cells #[.string key, .slice A l.length gc] 26))
  clear hS hU
  go_enter Try.func8, Try.ntmps8
  go_wp2_with fail
  refine (US.out _).mono ?_
  rintro e w' ⟨rfl, rfl⟩
  go_wp2_with fail
  go_ret
  exact ⟨rfl, HB.out⟩
set_option maxRecDepth 100000 in
set_option maxHeartbeats 16000000 in
theorem mayB_reqs (c : Cl) (hk : kindR c.k) (ra : Option Addr) (rc : Nat) (key : ByteArray) (A : Option Addr) (gc : Nat) (l : List Int) (w : World) (hS : usesS c.k = #[108]) (hU : usedL c.k = [7]) (hr : NRow w ra c.rq) (hl : c.rq.length ≤ 1000) (hg : NRow w A l) (hgl : l.length ≤ 1000) :
    Calls Try.prog 8 #[.agg #[.int .u8 c.k, .int .i64 c.co, .int .i64 c.pe, .int .i64 c.tg, .int .i64 c.va, .int .i64 c.sz, .int .i64 c.ro, .int .u8 c.op, .slice ra c.rq.length rc, .int .i64 c.cl, .int .i64 c.ky], .agg #[.string key, .slice A l.length gc]] w fun e w' => e = .returned (.bool (decide (mayC c l))) ∧ Below w.heap.size w w' := by
  have US := hide (fun (w1 : World) => uses_b c.k w1)
  rw [hS] at US
  have eS : ((⟨#[108]⟩ : ByteArray) == (⟨#[]⟩ : ByteArray)) = false := by rfl
  have eC : ((⟨#[108]⟩ : ByteArray) == (⟨#[99, 112, 116]⟩ : ByteArray)) = false := by rfl
  have H99 := hide (fun w1 => has_yes hS 99 99 rfl (b := false) (by decide) w1)
  have H112 := hide (fun w1 => has_yes hS 112 112 rfl (b := false) (by decide) w1)
  have H116 := hide (fun w1 => has_yes hS 116 116 rfl (b := false) (by decide) w1)
  have H115 := hide (fun w1 => has_yes hS 115 115 rfl (b := false) (by decide) w1)
  have H114 := hide (fun w1 => has_yes hS 114 114 rfl (b := false) (by decide) w1)
  have H111 := hide (fun w1 => has_yes hS 111 111 rfl (b := false) (by decide) w1)
  have H108 := hide (fun w1 => has_yes hS 108 108 rfl (b := true) (by decide) w1)
  have k1 := Blk.new w 24 #[.int .u8 c.k, .int .i64 c.co, .int .i64 c.pe, .int .i64 c.tg, .int .i64 c.va, .int .i64 c.sz, .int .i64 c.ro, .int .u8 c.op, .slice ra c.rq.length rc, .int .i64 c.cl, .int .i64 c.ky]
  have k2 := Blk.new (w.alloc (.cells #[.int .u8 c.k, .int .i64 c.co, .int .i64 c.pe, .int .i64 c.tg, .int .i64 c.va, .int .i64 c.sz, .int .i64 c.ro, .int .u8 c.op, .slice ra c.rq.length rc, .int .i64 c.cl, .int .i64 c.ky] 24)) 26 #[.string key, .slice A l.length gc]
  have k1b := k1.below ((Below.refl _ _).alloc (Nat.le_refl _) (.cells #[.string key, .slice A l.length gc] 26)) k1.lt
  rw [show (w.alloc (.cells #[.int .u8 c.k, .int .i64 c.co, .int .i64 c.pe, .int .i64 c.tg, .int .i64 c.va, .int .i64 c.sz, .int .i64 c.ro, .int .u8 c.op, .slice ra c.rq.length rc, .int .i64 c.cl, .int .i64 c.ky] 24)).heap.size = w.heap.size + 1 by simp] at k2
  have b2 := ((Below.refl w.heap.size w).alloc (Nat.le_refl _) (.cells #[.int .u8 c.k, .int .i64 c.co, .int .i64 c.pe, .int .i64 c.tg, .int .i64 c.va, .int .i64 c.sz, .int .i64 c.ro, .int .u8 c.op, .slice ra c.rq.length rc, .int .i64 c.cl, .int .i64 c.ky] 24)).alloc (by simp) (.cells #[.string key, .slice A l.length gc] 26)
  have HB := hide b2
  have GM := hide (fun (w1 : World) (h : Below w.heap.size w w1) => mayGroup_b key A gc l w1 (hg.below h) hgl)
  have MN := hide (fun (b : Bool) (w1 : World) (h : b = true ↔ 1 ≤ c.rq.length ∧ (c.rq.length : Int) ≤ mostR c.k) => many_0 c.k c.co c.pe c.tg c.va c.sz c.ro c.op c.cl c.ky ra c.rq.length rc w1 hk b h)
  have HR := hide hr
  have HL := hide hl
  have K1 := hide k1b
  have K2 := hide k2
  obtain ⟨bo, hbo⟩ : ∃ b, decide (mayC c l) = b := ⟨_, rfl⟩
  rw [hbo]
  have HT : Hid (mayC c l → bo = true) := hide (fun h => by rw [← hbo]; exact decide_eq_true h)
  have HF : Hid (¬ mayC c l → bo = false) := hide (fun h => by rw [← hbo]; exact decide_eq_false h)
  have HU := hide hU
  clear k1 k1b k2 b2 hbo hg hgl hS hU hk hr hl
  go_enter Try.func8, Try.ntmps8
  go_wp2_with fail
  refine (US.out _).mono ?_
  rintro e w' ⟨rfl, rfl⟩
  go_wp2_with fail
  refine (GM.out _ HB.out).mono ?_
  rintro e w4 ⟨rfl, hb4⟩
  have HW4 := hide (HB.out.trans (hb4.mono HB.out.size))
  have KA := K1.out.below hb4 K1.out.lt
  have KB := K2.out.below hb4 K2.out.lt
  have x0 : w4.cell? ⟨w.heap.size, 0, none⟩ = some (.int .u8 c.k) := KA.cell 0
  have x1 : w4.cell? ⟨w.heap.size, 1, none⟩ = some (.int .i64 c.co) := KA.cell 1
  have x2 : w4.cell? ⟨w.heap.size, 2, none⟩ = some (.int .i64 c.pe) := KA.cell 2
  have x3 : w4.cell? ⟨w.heap.size, 3, none⟩ = some (.int .i64 c.tg) := KA.cell 3
  have x4 : w4.cell? ⟨w.heap.size, 4, none⟩ = some (.int .i64 c.va) := KA.cell 4
  have x5 : w4.cell? ⟨w.heap.size, 5, none⟩ = some (.int .i64 c.sz) := KA.cell 5
  have x6 : w4.cell? ⟨w.heap.size, 6, none⟩ = some (.int .i64 c.ro) := KA.cell 6
  have x7 : w4.cell? ⟨w.heap.size, 7, none⟩ = some (.int .u8 c.op) := KA.cell 7
  have x8 : w4.cell? ⟨w.heap.size, 8, none⟩ = some (.slice ra c.rq.length rc) := KA.cell 8
  have x9 : w4.cell? ⟨w.heap.size, 9, none⟩ = some (.int .i64 c.cl) := KA.cell 9
  have x10 : w4.cell? ⟨w.heap.size, 10, none⟩ = some (.int .i64 c.ky) := KA.cell 10
  have y1 : w4.cell? ⟨w.heap.size + 1, 1, none⟩ = some (.slice A l.length gc) := KB.cell 1
  by_cases hm : mayL l
  rotate_left
  · rw [decide_eq_false hm]
    have R : bo = false := HF.out fun h => hm h.1
    subst R
    clear hb4 KA KB
    go_wp2_with fail
    go_ret
    exact ⟨rfl, HW4.out⟩
  rw [decide_eq_true hm]
  have HM := hide hm
  have HKA := hide KA
  clear hm hb4 KA KB
  go_wp2_with fail
  refine (US.out _).mono ?_
  rintro e w' ⟨rfl, rfl⟩
  go_wp2_with fail
  refine (H99.out _).mono ?_
  rintro e w' ⟨rfl, rfl⟩
  go_wp2_with fail
  refine (H112.out _).mono ?_
  rintro e w' ⟨rfl, rfl⟩
  go_wp2_with fail
  refine (H116.out _).mono ?_
  rintro e w' ⟨rfl, rfl⟩
  go_wp2_with fail
  refine (H115.out _).mono ?_
  rintro e w' ⟨rfl, rfl⟩
  go_wp2_with fail
  refine (H114.out _).mono ?_
  rintro e w' ⟨rfl, rfl⟩
  go_wp2_with fail
  refine (H111.out _).mono ?_
  rintro e w' ⟨rfl, rfl⟩
  go_wp2_with fail
  refine (H108.out _).mono ?_
  rintro e w' ⟨rfl, rfl⟩
  go_wp2_with fail
  by_cases hmr : manyR c
  rotate_left
  · have R : bo = false := HF.out (not_may HU.out (f := 7) (by decide) (fun h => hmr (mF7.1 h).1))
    subst R
    refine (MN.out false _ ⟨fun h => (by cases h), fun h => absurd (show manyR c from h) hmr⟩).mono ?_
    rintro e w5 ⟨rfl, hb5⟩
    have FIN := hide (HW4.out.trans (hb5.mono HW4.out.size))
    clear hb5 hmr
    go_wp2_with fail
    go_ret
    exact ⟨rfl, FIN.out⟩
  refine (MN.out true _ ⟨fun _ => hmr, fun _ => rfl⟩).mono ?_
  rintro e w5 ⟨rfl, hb5⟩
  have HMR := hide hmr
  have HW5 := hide (HW4.out.trans (hb5.mono HW4.out.size))
  have HR5 := hide (HR.out.below HW5.out)
  have HK5 := hide (HKA.out.below hb5 HKA.out.lt)
  obtain ⟨m, hm⟩ : ∃ m, c.rq.length = m := ⟨_, rfl⟩
  have z8 : w5.cell? ⟨w.heap.size, 8, none⟩ = some (.slice ra c.rq.length rc) := HK5.out.cell 8
  rw [hm] at z8
  have HMM := hide hm
  clear hb5 hmr hm x0 x1 x2 x3 x4 x5 x6 x7 x8 x9 x10 y1
  go_wp2_with fail
  go_loopw [7] (fun vi wr => ∃ i : Nat, i ≤ m ∧ vi = .int .i64 i ∧ Hid (Below w5.heap.size w5 wr) ∧ Hid (∀ j, j < i → 0 ≤ c.rq.getD j 0 ∧ c.rq.getD j 0 < 256) ∧ Hid ((c.rq.take i).Nodup)) (fun vi _ => m - (RowKit.intOf vi).toNat)
  case atStart => exact ⟨0, Nat.zero_le _, rfl, hide (Below.refl _ _), hide (fun j h => absurd h (Nat.not_lt_zero j)), hide (by simp)⟩
  case round =>
    obtain ⟨wo, rfl⟩ : ∃ wo, wo = wr := ⟨wr, rfl⟩
    obtain ⟨i, hi, rfl, HBr, HN, HD⟩ := hrel
    have HBw := hide (HW5.out.trans (HBr.out.mono HW5.out.size))
    have q8 : wo.cell? ⟨w.heap.size, 8, none⟩ = some (.slice ra m rc) := by rw [← HMM.out]; exact (HK5.out.below HBr.out HK5.out.lt).cell 8
    by_cases hlt : i < m
    rotate_left
    · have hltI : ¬ (i : Int) < (m : Int) := by omega
      have R := HT.out ⟨HM.out, by rw [HU.out]; simp, fun f hf => by
        rw [HU.out, List.mem_singleton] at hf
        subst hf
        refine mF7.2 ⟨HMR.out, fun r hr => ?_, ?_⟩
        · obtain ⟨j, hj, e⟩ := List.getElem_of_mem hr
          have := HN.out j (by have := HMM.out; omega)
          rw [List.getD, List.getElem?_eq_getElem hj] at this
          rw [← e]
          exact this
        · have := HD.out
          rwa [List.take_of_length_le (by have := HMM.out; omega)] at this⟩
      subst R
      go_wp2_with fail
      go_ret
      exact ⟨rfl, HBw.out⟩
    have hltI : (i : Int) < (m : Int) := by omega
    have hi0 : ¬ (i : Int) < 0 := by omega
    have hs1 : IntKind.i64.wrap ((i : Int) + 1) = (i : Int) + 1 := by rw [IntKind.wrap_i64]; have := HL.out; have := HMM.out; omega
    obtain ⟨a, rfl, ha, hc⟩ := (HR5.out.below HBr.out) (by have := HMM.out; omega)
    have hlt' : i < c.rq.length := by have := HMM.out; omega
    have cz := hc i hlt'
    have HC := hide hc
    have hmem : c.rq.getD i 0 ∈ c.rq := by
      rw [List.getD, List.getElem?_eq_getElem hlt']
      exact List.getElem_mem _
    have HBAD : Hid (¬ (0 ≤ c.rq.getD i 0 ∧ c.rq.getD i 0 < 256) → bo = false) := hide (fun h => HF.out (not_may HU.out (f := 7) (by decide) fun hm => h ((mF7.1 hm).2.1 _ hmem)))
    have HDUP : Hid (c.rq.getD i 0 ∈ c.rq.take i → bo = false) := hide (fun h => HF.out (not_may HU.out (f := 7) (by decide) fun hm => by
      have hn := (mF7.1 hm).2.2
      have e := List.take_append_drop i c.rq
      rw [← e, List.nodup_append] at hn
      refine hn.2.2 _ h _ ?_ rfl
      rw [List.getD, List.getElem?_eq_getElem hlt', Option.getD_some]
      rw [List.drop_eq_getElem_cons hlt']
      exact List.mem_cons_self))
    have HND : Hid (¬ c.rq.getD i 0 ∈ c.rq.take i → (c.rq.take (i + 1)).Nodup) := hide (fun h => by
      rw [List.take_succ_eq_append_getElem hlt']
      rw [List.nodup_append]
      refine ⟨HD.out, by simp, fun x hx y hy e => ?_⟩
      rw [List.mem_singleton] at hy
      subst hy
      subst e
      refine h ?_
      rw [List.getD, List.getElem?_eq_getElem hlt']
      exact hx)
    have HNX : Hid (0 ≤ c.rq.getD i 0 ∧ c.rq.getD i 0 < 256 → ∀ j, j < i + 1 → 0 ≤ c.rq.getD j 0 ∧ c.rq.getD j 0 < 256) := hide (fun h j hj => by
      by_cases hji : j = i
      · subst hji; exact h
      · exact HN.out j (by omega))
    have HTM : Hid (∀ j, j < i → c.rq.getD j 0 ∈ c.rq.take i) := hide (fun j hj => take_mem hj (by omega))
    have HMT : Hid (∀ z, z ∈ c.rq.take i → ∃ j, j < i ∧ c.rq.getD j 0 = z) := hide (fun z hz => mem_take hz (by omega))
    clear hc hmem hlt'
    obtain ⟨z, hz⟩ : ∃ z, c.rq.getD i 0 = z := ⟨_, rfl⟩
    rw [hz] at cz HBAD HDUP HND HNX
    have HZ := hide hz
    clear hz
    by_cases h0 : z < 0
    · have R := HBAD.out (fun h => by omega)
      subst R
      go_wp2_with fail
      go_ret
      exact ⟨rfl, HBw.out⟩
    by_cases h2 : 255 < z
    · have R := HBAD.out (fun h => by omega)
      subst R
      go_wp2_with fail
      go_ret
      exact ⟨rfl, HBw.out⟩
    have HNX2 := hide (HNX.out (by omega))
    go_wp2_with fail
    go_loopw [8] (fun vj wq => ∃ j : Nat, j ≤ i ∧ vj = .int .i64 j ∧ Hid (∀ t, t < j → ¬ c.rq.getD t 0 = z) ∧ Hid (Below wo.heap.size wo wq)) (fun vj _ => i - (RowKit.intOf vj).toNat)
    case atStart => exact ⟨0, Nat.zero_le _, rfl, hide (fun t h => absurd h (Nat.not_lt_zero t)), hide (Below.refl _ _)⟩
    case round =>
      obtain ⟨j, hj, rfl, HJ, HBq⟩ := hrel
      have HBw2 := hide (HBw.out.trans (HBq.out.mono HBw.out.size))
      have hwl : w.heap.size < wo.heap.size := block_lt_of_cell q8
      have q8' : wr.cell? ⟨w.heap.size, 8, none⟩ = some (.slice (some a) m rc) := (HBq.out.cell (p := ⟨w.heap.size, 8, none⟩) hwl).trans q8
      have cz' : wr.cell? (a.add i) = some (.int .i64 z) := (HBq.out.cell (p := a.add i) (by rw [block_of_add]; exact ha)).trans cz
      by_cases hji : j < i
      rotate_left
      · have hjI : ¬ (j : Int) < (i : Int) := by omega
        have HND2 := hide (HND.out (fun hz => by
          obtain ⟨t, ht, e⟩ := HMT.out z hz
          exact HJ.out t (by omega) e))
        have HBN := hide (HBr.out.trans (HBq.out.mono HBr.out.size))
        go_wp2_with fail
        go_roundw
        case rel => exact ⟨i + 1, by omega, by go_num, HBN, HNX2, HND2⟩
        case measure => simp [RowKit.intOf] <;> omega
      have hjI : (j : Int) < (i : Int) := by omega
      have hjm : (j : Int) < (m : Int) := by omega
      have hj0 : ¬ (j : Int) < 0 := by omega
      have hs2 : IntKind.i64.wrap ((j : Int) + 1) = (j : Int) + 1 := by rw [IntKind.wrap_i64]; have := HL.out; have := HMM.out; omega
      have cy : wr.cell? (a.add j) = some (.int .i64 (c.rq.getD j 0)) := (HBq.out.cell (p := a.add j) (by rw [block_of_add]; exact ha)).trans (HC.out j (by have := HMM.out; omega))
      have HTMj := hide (HTM.out j hji)
      have HJX : Hid (¬ c.rq.getD j 0 = z → ∀ t, t < j + 1 → ¬ c.rq.getD t 0 = z) := hide (fun h t ht => by
        by_cases htj : t = j
        · subst htj; exact h
        · exact HJ.out t (by omega))
      generalize c.rq.getD j 0 = y at *
      by_cases hy : y = z
      · have R := HDUP.out (by rw [← hy]; exact HTMj.out)
        subst R
        have e1 : (y == z) = true := by simpa using hy
        have HY := hide hy
        clear hy
        go_wp2_with fail
        go_quiet (fail)
        go_wp2_with fail
        go_ret
        exact ⟨rfl, below_drewN HBw2.out _⟩
      · have e1 : (y == z) = false := by simpa using hy
        have HJ2 := hide (HJX.out hy)
        have HY := hide hy
        clear hy
        go_wp2_with fail
        go_quiet (fail)
        go_wp2_with fail
        go_roundw
        case rel => exact ⟨j + 1, by omega, by first | trivial | go_num, HJ2, hide (below_drewN HBq.out _)⟩
        case measure => simp [RowKit.intOf] <;> omega
end Cal
end Go.Proofs.Ythbedpcgbabniaa
