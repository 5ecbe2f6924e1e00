/- Whether requests may be: the program. -/
import Derived.Test.YthcoelkpiflfeaaDoorRows
import Derived.Test.YthcoelkpiflfeaaDoorCalK
namespace Go.Proofs.YthcoelkpiflfeaaDoor
open Go Go.RowKit Go.Lib Go.Proofs.YthcoelkpiflfeaaDoor.Grp
set_option linter.unusedVariables false
set_option linter.unusedSimpArgs false
namespace Cal
def mostR (k : Int) : Int := if k = 8 ∨ k = 11 then 1 else 8
def kindR (k : Int) : Prop := k = 8 ∨ k = 9 ∨ k = 10 ∨ k = 11 ∨ k = 12
set_option maxRecDepth 100000 in
set_option maxHeartbeats 8000000 in
theorem Args_c (k : Int) (hk : kindR k) (w : World) : Calls Tryd.prog 46 #[.int .u8 k] w fun e w' => e = .returned (.tuple #[.int .i64 1, .int .i64 (mostR k)]) ∧ w' = w := by
  rcases hk with rfl | rfl | rfl | rfl | rfl
  all_goals
    go_enter Tryd.func46, Tryd.ntmps46
    go_wp2_with fail
    first
      | exact bodyPost_ret (v := .tuple #[.int .i64 1, .int .i64 1]) (by simp [results, Tryd.results46, go_sem]) rfl ⟨rfl, rfl⟩
      | exact bodyPost_ret (v := .tuple #[.int .i64 1, .int .i64 8]) (by simp [results, Tryd.results46, go_sem]) rfl ⟨rfl, rfl⟩
set_option maxRecDepth 100000 in
set_option maxHeartbeats 8000000 in
theorem asMany_c (c : Cl) (hk : kindR c.k) (ra : Option Addr) (rc : Nat) (w : World) :
    Calls Tryd.prog 20 #[.agg #[.int .u8 c.k, .int .i64 c.co, .int .i64 c.pe, .int .i64 c.tg, .int .i64 c.va, .int .i64 c.sz, .int .i64 c.ro, .int .u8 c.op, .slice ra c.rq.length rc, .int .i64 c.cl, .int .i64 c.ky]] w fun e w' => e = .returned (.bool (decide (manyR c))) ∧ Below w.heap.size w w' := by
  have AR := hide (fun (w1 : World) => Args_c c.k hk w1)
  have HB := hide ((Below.refl w.heap.size w).alloc (Nat.le_refl _) (.cells #[.int .u8 c.k, .int .i64 c.co, .int .i64 c.pe, .int .i64 c.tg, .int .i64 c.va, .int .i64 c.sz, .int .i64 c.ro, .int .u8 c.op, .slice ra c.rq.length rc, .int .i64 c.cl, .int .i64 c.ky] 24))
  obtain ⟨b, hb⟩ : ∃ b, decide (manyR c) = b := ⟨_, rfl⟩
  rw [hb]
  have HT : Hid (1 ≤ c.rq.length → (c.rq.length : Int) ≤ mostR c.k → b = true) := hide (fun h1 h2 => by rw [← hb]; exact decide_eq_true ⟨h1, h2⟩)
  have HF : Hid (¬ (1 ≤ c.rq.length ∧ (c.rq.length : Int) ≤ mostR c.k) → b = false) := hide (fun h => by rw [← hb]; exact decide_eq_false h)
  obtain ⟨m, hm⟩ : ∃ m, c.rq.length = m := ⟨_, rfl⟩
  rw [hm] at HT HF HB
  rw [hm]
  clear hb hk hm
  go_enter Tryd.func20, Tryd.ntmps20
  go_wp2_with fail
  refine (AR.out _).mono ?_
  rintro e w' ⟨rfl, rfl⟩
  generalize mostR c.k = mo at *
  by_cases h1 : (1 : Int) ≤ (m : Int)
  · by_cases h2 : (m : Int) ≤ mo
    · have R := HT.out (by omega) h2
      subst R
      go_wp2_with fail
      go_ret
      exact ⟨rfl, HB.out⟩
    · have R := HF.out (fun h => h2 h.2)
      subst R
      have h3 : mo < (m : Int) := by omega
      have H2 := hide (decide_eq_false h2)
      go_wp2_with fail
      go_ret
      first
        | exact ⟨rfl, HB.out⟩
        | exact ⟨by show Ending.returned (.bool (decide ((m : Int) ≤ mo))) = _; rw [H2.out], HB.out⟩
  · have R := HF.out (fun h => h1 (by omega))
    subst R
    have h3 : (m : Int) < 1 := by omega
    have H1 := hide (decide_eq_false h1)
    go_wp2_with fail
    go_ret
    exact ⟨rfl, HB.out⟩
theorem NRow.take {w : World} {A : Option Addr} {l : List Int} (h : NRow w A l) (n : Nat) : NRow w A (l.take n) := fun h0 => by
  have h1 : 0 < l.length := by rw [List.length_take] at h0; omega
  obtain ⟨a, e, ha, hc⟩ := h h1
  refine ⟨a, e, ha, fun i hi => ?_⟩
  rw [List.length_take] at hi
  rw [hc i (by omega), List.getD, List.getD, List.getElem?_take, if_pos (by omega)]
set_option maxRecDepth 100000 in
set_option maxHeartbeats 8000000 in
theorem mayReqs_c (c : Cl) (hk : kindR c.k) (ra : Option Addr) (rc : Nat) (w : World) (hr : NRow w ra c.rq) (hrc : c.rq.length ≤ rc) (hl : c.rq.length ≤ 1000) :
    Calls Tryd.prog 61 #[.agg #[.int .u8 c.k, .int .i64 c.co, .int .i64 c.pe, .int .i64 c.tg, .int .i64 c.va, .int .i64 c.sz, .int .i64 c.ro, .int .u8 c.op, .slice ra c.rq.length rc, .int .i64 c.cl, .int .i64 c.ky]] w fun e w' => e = .returned (.bool (decide (mayR c))) ∧ Below w.heap.size w w' := by
  have b1 := (Below.refl w.heap.size w).alloc (Nat.le_refl _) (.cells #[.int .u8 c.k, .int .i64 c.co, .int .i64 c.pe, .int .i64 c.tg, .int .i64 c.va, .int .i64 c.sz, .int .i64 c.ro, .int .u8 c.op, .slice ra c.rq.length rc, .int .i64 c.cl, .int .i64 c.ky] 24)
  have k1 := Blk.new w 24 #[.int .u8 c.k, .int .i64 c.co, .int .i64 c.pe, .int .i64 c.tg, .int .i64 c.va, .int .i64 c.sz, .int .i64 c.ro, .int .u8 c.op, .slice ra c.rq.length rc, .int .i64 c.cl, .int .i64 c.ky]
  have AM := hide (asMany_c c hk ra rc (w.alloc (.cells #[.int .u8 c.k, .int .i64 c.co, .int .i64 c.pe, .int .i64 c.tg, .int .i64 c.va, .int .i64 c.sz, .int .i64 c.ro, .int .u8 c.op, .slice ra c.rq.length rc, .int .i64 c.cl, .int .i64 c.ky] 24)))
  obtain ⟨w2, hw2⟩ : ∃ y, w.alloc (.cells #[.int .u8 c.k, .int .i64 c.co, .int .i64 c.pe, .int .i64 c.tg, .int .i64 c.va, .int .i64 c.sz, .int .i64 c.ro, .int .u8 c.op, .slice ra c.rq.length rc, .int .i64 c.cl, .int .i64 c.ky] 24) = y := ⟨_, rfl⟩
  rw [hw2] at b1 k1 AM
  have HB := hide b1
  have HK := hide k1
  have HW := hide hw2
  have HR := hide hr
  obtain ⟨b, hb⟩ : ∃ b, decide (mayR c) = b := ⟨_, rfl⟩
  rw [hb]
  have HT : Hid (manyR c → (∀ r ∈ c.rq, 0 ≤ r ∧ r < 256) → c.rq.Nodup → b = true) := hide (fun h1 h2 h3 => by rw [← hb]; exact decide_eq_true ⟨h1, h2, h3⟩)
  have HF : Hid (¬ mayR c → b = false) := hide (fun h => by rw [← hb]; exact decide_eq_false h)
  have HRC := hide hrc
  have HL := hide hl
  clear hb hk hr hrc hl b1 k1 hw2
  go_enter Tryd.func61, Tryd.ntmps61
  go_wp2_with fail
  rw [HW.out]
  refine AM.out.mono ?_
  rintro e w3 ⟨rfl, hb3⟩
  by_cases hm0 : manyR c
  rotate_left
  · have R := HF.out (fun h => hm0 h.1)
    subst R
    rw [decide_eq_false hm0]
    have FIN := hide (HB.out.trans (hb3.mono HB.out.size))
    clear hb3
    go_wp2_with fail
    go_ret
    exact ⟨rfl, FIN.out⟩
  rw [decide_eq_true hm0]
  have HM0 := hide hm0
  have FIN := hide (HB.out.trans (hb3.mono HB.out.size))
  have HR3 := hide (HR.out.below FIN.out)
  have x8 : w3.cell? ⟨w.heap.size, 8, none⟩ = some (.slice ra c.rq.length rc) := (HK.out.below hb3 HK.out.lt).cell 8
  obtain ⟨m, hm⟩ : ∃ m, c.rq.length = m := ⟨_, rfl⟩
  rw [hm] at x8
  have HMM := hide hm
  obtain ⟨bx, hbx⟩ : ∃ y, w.heap.size = y := ⟨_, rfl⟩
  rw [hbx] at x8
  rw [hbx]
  have HBX := hide hbx
  clear hb3 hm hm0 hbx
  go_wp2_with fail
  go_loopw [3, 4, 11] (fun v3 v4 vi wr => ∃ i : Nat, i ≤ m ∧ vi = .int .i64 i ∧ wr = w3 ∧ Hid (∀ j, j < i → 0 ≤ c.rq.getD j 0 ∧ c.rq.getD j 0 < 256) ∧ Hid ((c.rq.take i).Nodup)) (fun _ _ vi _ => m - (RowKit.intOf vi).toNat)
  case atStart => exact ⟨0, Nat.zero_le _, rfl, rfl, hide (fun j h => absurd h (Nat.not_lt_zero j)), hide (by simp)⟩
  case round =>
    obtain ⟨i, hi, rfl, rfl, HN, HD⟩ := hrel
    by_cases hlt : i < m
    rotate_left
    · have hltI : ¬ (i : Int) < (m : Int) := by omega
      have R := HT.out HM0.out (fun r hr => by
        obtain ⟨j, hj, e⟩ := List.getElem_of_mem hr
        have := HN.out j (by have := HMM.out; omega)
        rw [List.getD, List.getElem?_eq_getElem hj] at this
        rw [← e]
        exact this) (by
        have := HD.out
        rwa [List.take_of_length_le (by have := HMM.out; omega)] at this)
      subst R
      go_wp2_with fail
      go_ret
      exact ⟨rfl, FIN.out⟩
    · have hltI : (i : Int) < (m : Int) := by omega
      have hi0 : ¬ (i : Int) < 0 := by omega
      have hi1 : (0 : Int) ≤ (i : Int) := by omega
      have hi2 : (i : Int) ≤ (m : Int) := by omega
      have hi3 : (i : Int) ≤ (rc : Int) := by have := HRC.out; have := HMM.out; omega
      have hi4 : i ≤ rc := by omega
      have hs1 : IntKind.i64.wrap ((i : Int) + 1) = (i : Int) + 1 := by rw [IntKind.wrap_i64]; have := HL.out; have := HMM.out; omega
      obtain ⟨a, rfl, ha, hc⟩ := HR3.out (by have := HMM.out; omega)
      have cz := hc i (by have := HMM.out; omega)
      have hlt' : i < c.rq.length := by have := HMM.out; omega
      have htl : (c.rq.take i).length = i := by rw [List.length_take]; omega
      have CT0 := Contains_c (some a) rc (c.rq.take i) (c.rq.getD i 0) wr (NRow.take HR3.out i) (by rw [htl]; have := HL.out; omega)
      rw [htl] at CT0
      have hmem : c.rq.getD i 0 ∈ c.rq := by
        rw [List.getD, List.getElem?_eq_getElem hlt']
        exact List.getElem_mem _
      have HBAD : Hid (¬ (0 ≤ c.rq.getD i 0 ∧ c.rq.getD i 0 < 256) → b = false) := hide (fun h => HF.out fun hm => h (hm.2.1 _ hmem))
      have HDUP : Hid (c.rq.getD i 0 ∈ c.rq.take i → b = false) := hide (fun h => HF.out fun hm => by
        have hn := hm.2.2
        have e := List.take_append_drop i c.rq
        rw [← e, List.nodup_append] at hn
        refine hn.2.2 _ h _ ?_ rfl
        rw [List.getD, List.getElem?_eq_getElem hlt', Option.getD_some]
        rw [List.drop_eq_getElem_cons hlt']
        exact List.mem_cons_self)
      have HND : Hid (¬ c.rq.getD i 0 ∈ c.rq.take i → (c.rq.take (i + 1)).Nodup) := hide (fun h => by
        rw [List.take_succ_eq_append_getElem hlt']
        rw [List.nodup_append]
        refine ⟨HD.out, by simp, fun x hx y hy e => ?_⟩
        rw [List.mem_singleton] at hy
        subst hy
        subst e
        refine h ?_
        rw [List.getD, List.getElem?_eq_getElem hlt']
        exact hx)
      have HNX : Hid (0 ≤ c.rq.getD i 0 ∧ c.rq.getD i 0 < 256 → ∀ j, j < i + 1 → 0 ≤ c.rq.getD j 0 ∧ c.rq.getD j 0 < 256) := hide (fun h j hj => by
        by_cases hji : j = i
        · subst hji; exact h
        · exact HN.out j (by omega))
      have CT := hide CT0
      clear hc hmem htl hlt' CT0
      generalize c.rq.getD i 0 = x at *
      by_cases h0 : x < 0
      · have R := HBAD.out (fun h => by omega)
        subst R
        go_wp2_with fail
        go_ret
        exact ⟨rfl, FIN.out⟩
      by_cases h2 : (256 : Int) ≤ x
      · have R := HBAD.out (fun h => by omega)
        subst R
        go_wp2_with fail
        go_ret
        exact ⟨rfl, FIN.out⟩
      have HNX2 := hide (HNX.out (by omega))
      go_wp2_with fail
      refine CT.out.mono ?_
      rintro e w9 ⟨rfl, rfl⟩
      by_cases hd : x ∈ c.rq.take i
      · have R := HDUP.out hd
        subst R
        rw [decide_eq_true hd]
        go_wp2_with fail
        go_ret
        exact ⟨rfl, FIN.out⟩
      · rw [decide_eq_false hd]
        have HND2 := hide (HND.out hd)
        go_wp2_with fail
        go_roundw
        case rel => exact ⟨i + 1, by omega, by go_num, by first | rfl | trivial, HNX2, HND2⟩
        case measure => simp [RowKit.intOf] <;> omega
end Cal
end Go.Proofs.YthcoelkpiflfeaaDoor
