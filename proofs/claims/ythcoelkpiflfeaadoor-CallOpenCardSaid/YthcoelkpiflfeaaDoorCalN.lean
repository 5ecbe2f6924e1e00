/- Whether a call may be: the program. -/
import Derived.Test.YthcoelkpiflfeaaDoorRows
import Derived.Test.YthcoelkpiflfeaaDoorCalM
namespace Go.Proofs.YthcoelkpiflfeaaDoor
open Go Go.RowKit Go.Lib Go.Proofs.YthcoelkpiflfeaaDoor.Grp
set_option linter.unusedVariables false
set_option linter.unusedSimpArgs false
namespace Cal
set_option maxRecDepth 100000 in
set_option maxHeartbeats 8000000 in
theorem clos_c (c : Cl) (ra : Option Addr) (rc : Nat) (key : ByteArray) (A : Option Addr) (gc : Nat) (l : List Int) (f : Int) (hf : f ∈ usedL c.k) (bc bg : Nat) (w : World) (hr : NRow w ra c.rq) (hrc : c.rq.length ≤ rc) (hl : c.rq.length ≤ 1000) (hg : NRow w A l) (hgl : l.length ≤ 1000) (hbc : Blk w bc 24 #[.int .u8 c.k, .int .i64 c.co, .int .i64 c.pe, .int .i64 c.tg, .int .i64 c.va, .int .i64 c.sz, .int .i64 c.ro, .int .u8 c.op, .slice ra c.rq.length rc, .int .i64 c.cl, .int .i64 c.ky]) (hbg : Blk w bg 37 #[.string key, .slice A l.length gc]) :
    Calls Tryd.prog 42 #[.int .i64 f, .pointer (some ⟨bc, 0, none⟩), .pointer (some ⟨bg, 0, none⟩)] w fun e w' => e = .returned (.bool (!decide (mayF c l.length f))) ∧ Below w.heap.size w w' := by
  have MF := hide (mayField_c c ra rc key A gc l f hf w hr hrc hl hg hgl)
  have x0 : w.cell? ⟨bc, 0, none⟩ = some (.int .u8 c.k) := hbc.cell 0
  have x1 : w.cell? ⟨bc, 1, none⟩ = some (.int .i64 c.co) := hbc.cell 1
  have x2 : w.cell? ⟨bc, 2, none⟩ = some (.int .i64 c.pe) := hbc.cell 2
  have x3 : w.cell? ⟨bc, 3, none⟩ = some (.int .i64 c.tg) := hbc.cell 3
  have x4 : w.cell? ⟨bc, 4, none⟩ = some (.int .i64 c.va) := hbc.cell 4
  have x5 : w.cell? ⟨bc, 5, none⟩ = some (.int .i64 c.sz) := hbc.cell 5
  have x6 : w.cell? ⟨bc, 6, none⟩ = some (.int .i64 c.ro) := hbc.cell 6
  have x7 : w.cell? ⟨bc, 7, none⟩ = some (.int .u8 c.op) := hbc.cell 7
  have x8 : w.cell? ⟨bc, 8, none⟩ = some (.slice ra c.rq.length rc) := hbc.cell 8
  have x9 : w.cell? ⟨bc, 9, none⟩ = some (.int .i64 c.cl) := hbc.cell 9
  have x10 : w.cell? ⟨bc, 10, none⟩ = some (.int .i64 c.ky) := hbc.cell 10
  have y0 : w.cell? ⟨bg, 0, none⟩ = some (.string key) := hbg.cell 0
  have y1 : w.cell? ⟨bg, 1, none⟩ = some (.slice A l.length gc) := hbg.cell 1
  generalize decide (mayF c l.length f) = b at *
  clear hf hr hrc hl hg hgl hbc hbg
  go_enter Tryd.func42, Tryd.ntmps42
  go_wp2_with fail
  refine MF.out.mono ?_
  rintro e w' ⟨rfl, hb⟩
  have HB := hide hb
  clear hb
  go_wp2_with fail
  go_ret
  exact ⟨rfl, HB.out⟩
set_option maxRecDepth 100000 in
set_option maxHeartbeats 8000000 in
theorem IndexFunc_c (c : Cl) (ra : Option Addr) (rc : Nat) (key : ByteArray) (A : Option Addr) (gc : Nat) (l : List Int) (fs : List Int) (hfs : ∀ f ∈ fs, f ∈ usedL c.k) (F : Option Addr) (fc : Nat) (bc bg : Nat) (w : World) (hF : NRow w F fs) (hn : fs.length ≤ 1000) (hr : NRow w ra c.rq) (hrc : c.rq.length ≤ rc) (hl : c.rq.length ≤ 1000) (hg : NRow w A l) (hgl : l.length ≤ 1000) (hbc : Blk w bc 24 #[.int .u8 c.k, .int .i64 c.co, .int .i64 c.pe, .int .i64 c.tg, .int .i64 c.va, .int .i64 c.sz, .int .i64 c.ro, .int .u8 c.op, .slice ra c.rq.length rc, .int .i64 c.cl, .int .i64 c.ky]) (hbg : Blk w bg 37 #[.string key, .slice A l.length gc]) :
    Calls Tryd.prog 58 #[.slice F fs.length fc, .func (.func 42) #[] #[.pointer (some ⟨bc, 0, none⟩), .pointer (some ⟨bg, 0, none⟩)]] w fun e w' => ∃ r : Int, e = .returned (.int .i64 r) ∧ (0 ≤ r ↔ ∃ f ∈ fs, ¬ mayF c l.length f) ∧ Below w.heap.size w w' := by
  have CL := hide (fun (f : Int) (hf : f ∈ fs) (w1 : World) (h : Below w.heap.size w w1) => clos_c c ra rc key A gc l f (hfs f hf) bc bg w1 (hr.below h) hrc hl (hg.below h) hgl (hbc.below h hbc.lt) (hbg.below h hbg.lt))
  have H := hide hF
  have HL := hide hn
  obtain ⟨m, hm⟩ : ∃ m, fs.length = m := ⟨_, rfl⟩
  have HM := hide hm
  rw [hm]
  clear hfs hF hn hr hrc hl hg hgl hbc hbg hm
  go_enter Tryd.func58, Tryd.ntmps58
  go_wp2_with fail
  go_loopw [5, 8] (fun v5 vi wr => ∃ i : Nat, i ≤ m ∧ vi = .int .i64 i ∧ Hid (Below w.heap.size w wr) ∧ Hid (∀ j, j < i → mayF c l.length (fs.getD j 0))) (fun _ vi _ => m - (RowKit.intOf vi).toNat)
  case atStart => exact ⟨0, Nat.zero_le _, rfl, hide (Below.refl _ _), hide (fun j h => absurd h (Nat.not_lt_zero j))⟩
  case round =>
    obtain ⟨i, hi, rfl, HB, HN⟩ := hrel
    by_cases hlt : i < m
    rotate_left
    · have hltI : ¬ (i : Int) < (m : Int) := by omega
      have FIN : Hid (¬ ∃ f ∈ fs, ¬ mayF c l.length f) := hide (by
        rintro ⟨f, hf, hno⟩
        obtain ⟨j, hj, e⟩ := List.getElem_of_mem hf
        have := HN.out j (by have := HM.out; omega)
        rw [List.getD, List.getElem?_eq_getElem hj] at this
        exact hno (by rw [← e]; exact this))
      go_wp2_with fail
      go_ret
      exact ⟨-1, rfl, ⟨fun h => absurd h (by decide), fun h => absurd h FIN.out⟩, HB.out⟩
    · have hltI : (i : Int) < (m : Int) := by omega
      have hi0 : ¬ (i : Int) < 0 := by omega
      have hs1 : IntKind.i64.wrap ((i : Int) + 1) = (i : Int) + 1 := by rw [IntKind.wrap_i64]; have := HL.out; have := HM.out; omega
      obtain ⟨a, rfl, ha, hc⟩ := (H.out.below HB.out) (by have := HM.out; omega)
      have cz := hc i (by have := HM.out; omega)
      have hmem : fs.getD i 0 ∈ fs := by
        rw [List.getD, List.getElem?_eq_getElem (by have := HM.out; omega)]
        exact List.getElem_mem _
      have CLO := hide (CL.out _ hmem wr HB.out)
      have HMEM := hide hmem
      have HNX : Hid (mayF c l.length (fs.getD i 0) → ∀ j, j < i + 1 → mayF c l.length (fs.getD j 0)) := hide (fun hne j hj => by
        by_cases hji : j = i
        · subst hji; exact hne
        · exact HN.out j (by omega))
      clear hc hmem
      generalize fs.getD i 0 = x at *
      go_wp2_with fail
      refine CLO.out.mono ?_
      rintro e w9 ⟨rfl, hb9⟩
      have HB9 := hide (HB.out.trans (hb9.mono HB.out.size))
      clear hb9
      by_cases hx : mayF c l.length x
      · rw [decide_eq_true hx]
        have HN2 := hide (HNX.out hx)
        have HX := hide hx
        clear hx
        go_wp2_with fail
        go_roundw
        case rel => exact ⟨i + 1, by omega, by go_num, HB9, HN2⟩
        case measure => simp [RowKit.intOf] <;> omega
      · rw [decide_eq_false hx]
        have FIN : Hid (∃ f ∈ fs, ¬ mayF c l.length f) := hide ⟨x, HMEM.out, hx⟩
        have HX := hide hx
        clear hx
        go_wp2_with fail
        go_ret
        exact ⟨i, rfl, ⟨fun _ => FIN.out, fun _ => by omega⟩, HB9.out⟩
set_option maxRecDepth 100000 in
set_option maxHeartbeats 8000000 in
theorem ContainsFunc_c (c : Cl) (ra : Option Addr) (rc : Nat) (key : ByteArray) (A : Option Addr) (gc : Nat) (l : List Int) (fs : List Int) (hfs : ∀ f ∈ fs, f ∈ usedL c.k) (F : Option Addr) (fc : Nat) (bc bg : Nat) (w : World) (hF : NRow w F fs) (hn : fs.length ≤ 1000) (hr : NRow w ra c.rq) (hrc : c.rq.length ≤ rc) (hl : c.rq.length ≤ 1000) (hg : NRow w A l) (hgl : l.length ≤ 1000) (hbc : Blk w bc 24 #[.int .u8 c.k, .int .i64 c.co, .int .i64 c.pe, .int .i64 c.tg, .int .i64 c.va, .int .i64 c.sz, .int .i64 c.ro, .int .u8 c.op, .slice ra c.rq.length rc, .int .i64 c.cl, .int .i64 c.ky]) (hbg : Blk w bg 37 #[.string key, .slice A l.length gc]) (b : Bool) (hb : (b = true ↔ ∃ f ∈ fs, ¬ mayF c l.length f)) :
    Calls Tryd.prog 41 #[.slice F fs.length fc, .func (.func 42) #[] #[.pointer (some ⟨bc, 0, none⟩), .pointer (some ⟨bg, 0, none⟩)]] w fun e w' => e = .returned (.bool b) ∧ Below w.heap.size w w' := by
  have IX := hide (IndexFunc_c c ra rc key A gc l fs hfs F fc bc bg w hF hn hr hrc hl hg hgl hbc hbg)
  have HB := hide hb
  clear hfs hF hn hr hrc hl hg hgl hbc hbg hb
  go_enter Tryd.func41, Tryd.ntmps41
  go_wp2_with fail
  refine IX.out.mono ?_
  rintro e w' ⟨r, rfl, hr, hbl⟩
  have HBL := hide hbl
  by_cases h0 : 0 ≤ r
  · have hbt : b = true := HB.out.2 (hr.1 h0)
    subst hbt
    clear hr hbl
    go_wp2_with fail
    go_ret
    exact ⟨rfl, HBL.out⟩
  · have hbf : b = false := Bool.eq_false_iff.2 fun e => h0 (hr.2 (HB.out.1 e))
    subst hbf
    have H0 := hide (decide_eq_false h0)
    clear hr h0 hbl
    go_wp2_with fail
    go_ret
    exact ⟨by show Ending.returned (.bool (decide (0 ≤ r))) = _; rw [H0.out], HBL.out⟩
set_option maxRecDepth 100000 in
set_option maxHeartbeats 8000000 in
theorem May_p (c : Cl) (ra : Option Addr) (rc : Nat) (key : ByteArray) (A : Option Addr) (gc : Nat) (l : List Int) (w : World) (hr : NRow w ra c.rq) (hrc : c.rq.length ≤ rc) (hl : c.rq.length ≤ 1000) (hg : NRow w A l) (hgl : l.length ≤ 1000) :
    Calls Tryd.prog 13 #[.agg #[.int .u8 c.k, .int .i64 c.co, .int .i64 c.pe, .int .i64 c.tg, .int .i64 c.va, .int .i64 c.sz, .int .i64 c.ro, .int .u8 c.op, .slice ra c.rq.length rc, .int .i64 c.cl, .int .i64 c.ky], .agg #[.string key, .slice A l.length gc]] w fun e w' => e = .returned (.bool (decide (mayC c l))) ∧ Below w.heap.size w w' := by
  have k1 := Blk.new w 24 #[.int .u8 c.k, .int .i64 c.co, .int .i64 c.pe, .int .i64 c.tg, .int .i64 c.va, .int .i64 c.sz, .int .i64 c.ro, .int .u8 c.op, .slice ra c.rq.length rc, .int .i64 c.cl, .int .i64 c.ky]
  have k2 := Blk.new (w.alloc (.cells #[.int .u8 c.k, .int .i64 c.co, .int .i64 c.pe, .int .i64 c.tg, .int .i64 c.va, .int .i64 c.sz, .int .i64 c.ro, .int .u8 c.op, .slice ra c.rq.length rc, .int .i64 c.cl, .int .i64 c.ky] 24)) 37 #[.string key, .slice A l.length gc]
  have k1b := k1.below ((Below.refl _ _).alloc (Nat.le_refl _) (.cells #[.string key, .slice A l.length gc] 37)) k1.lt
  rw [show (w.alloc (.cells #[.int .u8 c.k, .int .i64 c.co, .int .i64 c.pe, .int .i64 c.tg, .int .i64 c.va, .int .i64 c.sz, .int .i64 c.ro, .int .u8 c.op, .slice ra c.rq.length rc, .int .i64 c.cl, .int .i64 c.ky] 24)).heap.size = w.heap.size + 1 by simp] at k2
  have b2 := ((Below.refl w.heap.size w).alloc (Nat.le_refl _) (.cells #[.int .u8 c.k, .int .i64 c.co, .int .i64 c.pe, .int .i64 c.tg, .int .i64 c.va, .int .i64 c.sz, .int .i64 c.ro, .int .u8 c.op, .slice ra c.rq.length rc, .int .i64 c.cl, .int .i64 c.ky] 24)).alloc (by simp) (.cells #[.string key, .slice A l.length gc] 37)
  obtain ⟨w2, hw2⟩ : ∃ y, (w.alloc (.cells #[.int .u8 c.k, .int .i64 c.co, .int .i64 c.pe, .int .i64 c.tg, .int .i64 c.va, .int .i64 c.sz, .int .i64 c.ro, .int .u8 c.op, .slice ra c.rq.length rc, .int .i64 c.cl, .int .i64 c.ky] 24)).alloc (.cells #[.string key, .slice A l.length gc] 37) = y := ⟨_, rfl⟩
  rw [hw2] at k1b k2 b2
  have US := hide (used_c c.k w2)
  have GM := hide (fun (w1 : World) (h : Below w.heap.size w w1) => May_a key A gc l w1 (hg.below h) hgl)
  have CF := hide (fun (w1 : World) (h : Below w2.heap.size w2 w1) (F : Option Addr) (fc : Nat) (hF : NRow w1 F (usedL c.k)) => ContainsFunc_c c ra rc key A gc l (usedL c.k) (fun _ h => h) F fc w.heap.size (w.heap.size + 1) w1 hF (by have := used_len c.k; omega) (hr.below (b2.trans (h.mono b2.size))) hrc hl (hg.below (b2.trans (h.mono b2.size))) hgl (k1b.below h k1b.lt) (k2.below h k2.lt))
  have HB := hide b2
  have K2 := hide k2
  have HW := hide hw2
  obtain ⟨bo, hbo⟩ : ∃ b, decide (mayC c l) = b := ⟨_, rfl⟩
  rw [hbo]
  have HBO := hide hbo
  clear hr hrc hl hg hgl k1 k2 k1b b2 hbo hw2
  go_enter Tryd.func13, Tryd.ntmps13
  go_wp2_with fail
  rw [HW.out]
  refine US.out.mono ?_
  rintro e w3 ⟨v, rfl, hv, hb3⟩
  have HB3 := hide hb3
  have HW3 := hide (HB.out.trans (hb3.mono HB.out.size))
  have y0 : w3.cell? ⟨w.heap.size + 1, 0, none⟩ = some (.string key) := (K2.out.below hb3 K2.out.lt).cell 0
  have y1 : w3.cell? ⟨w.heap.size + 1, 1, none⟩ = some (.slice A l.length gc) := (K2.out.below hb3 K2.out.lt).cell 1
  have HV := hide hv
  clear hv hb3
  go_wp2_with fail
  refine (GM.out w3 HW3.out).mono ?_
  rintro e w4 ⟨rfl, hb4⟩
  have HB4 := hide (HB3.out.trans (hb4.mono HB3.out.size))
  have HW4 := hide (HW3.out.trans (hb4.mono HW3.out.size))
  by_cases hm : mayL l
  rotate_left
  · rw [decide_eq_false hm]
    have R : bo = false := by rw [← HBO.out]; exact decide_eq_false fun h => hm h.1
    subst R
    clear hb4
    go_wp2_with fail
    go_ret
    exact ⟨rfl, HW4.out⟩
  rw [decide_eq_true hm]
  have HMM := hide hm
  clear hm
  rcases HV.out with ⟨hu, rfl⟩ | ⟨g, h0, rfl, hg0, hgb⟩
  · have R : bo = false := by rw [← HBO.out]; exact decide_eq_false fun h => h.2.1 hu
    subst R
    have HU := hide hu
    clear hu hb4
    go_wp2_with fail
    go_ret
    exact ⟨rfl, HW4.out⟩
  · have hF : NRow w4 (some ⟨g, 0, none⟩) (usedL c.k) := fun _ => ⟨_, rfl, by have := (hgb.below hb4 hgb.lt).lt; exact this, fun j hj => by
      rw [add_lit, (hgb.below hb4 hgb.lt).cell]
      simpa using i64s_at hj⟩
    have hne : usedL c.k ≠ [] := fun e => by rw [e] at h0; exact absurd h0 (Nat.lt_irrefl 0)
    have CFN := hide (CF.out w4 HB4.out (some ⟨g, 0, none⟩) (usedL c.k).length hF (!bo) (by
      rw [Bool.not_eq_true', ← HBO.out, decide_eq_false_iff_not]
      constructor
      · intro h
        refine Classical.byContradiction fun hno => h ⟨HMM.out, hne, fun f hf => Classical.byContradiction fun hb => hno ⟨f, hf, hb⟩⟩
      · rintro ⟨f, hf, hno⟩ h
        exact hno (h.2.2 f hf)))
    obtain ⟨m, hm⟩ : ∃ m, (usedL c.k).length = m := ⟨_, rfl⟩
    rw [hm] at CFN h0 ⊢
    have hm0 : ¬ (m : Int) = 0 := by omega
    have hm1 : ((m : Int) == 0) = false := by simpa using hm0
    have HH0 := hide h0
    clear hgb hF hne hb4 hm h0 HV
    go_wp2_with fail
    refine CFN.out.mono ?_
    rintro e w5 ⟨rfl, hb5⟩
    have FIN := hide (HW4.out.trans (hb5.mono HW4.out.size))
    clear hb5
    go_wp2_with fail
    go_ret
    first | exact ⟨rfl, FIN.out⟩ | exact ⟨by rw [Bool.not_not], FIN.out⟩
end Cal
end Go.Proofs.YthcoelkpiflfeaaDoor
