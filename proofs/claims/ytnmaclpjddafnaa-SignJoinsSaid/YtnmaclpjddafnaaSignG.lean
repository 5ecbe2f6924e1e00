/- Whether a choice's point stands in another row, and is the same there: the closures of Agree and of Within. -/
import Derived.Test.YtnmaclpjddafnaaRows
import Derived.Test.YtnmaclpjddafnaaSignF
namespace Go.Proofs.Ytnmaclpjddafnaa
open Go.RowKit
set_option linter.unusedVariables false
set_option linter.unusedSimpArgs false
def agB (b : List Ch) (x : Ch) : Bool := match b[posL b x]? with | some y => eqP y x && !decide (y = x) | none => false
def wiB (b : List Ch) (x : Ch) : Bool := match b[posL b x]? with | some y => !decide (y = x) | none => true
theorem eqP_self (x : Ch) : eqP x x = true := by simp [eqP]
theorem fnd_cases (b : List Ch) (x : Ch) : (fndL b x = false ∧ agB b x = false ∧ wiB b x = true) ∨ ∃ h : posL b x < b.length, fndL b x = true ∧ agB b x = !decide (b[posL b x] = x) ∧ wiB b x = !decide (b[posL b x] = x) := by
  unfold fndL agB wiB
  rcases Nat.lt_or_ge (posL b x) b.length with h | h
  · rw [List.getElem?_eq_getElem h]
    dsimp only
    rcases he : eqP b[posL b x] x with _ | _
    · refine Or.inl ⟨rfl, rfl, ?_⟩
      have : ¬ b[posL b x] = x := fun e => by rw [e, eqP_self] at he; cases he
      simp [this]
    · exact Or.inr ⟨h, rfl, by simp, rfl⟩
  · rw [List.getElem?_eq_none h]
    exact Or.inl ⟨rfl, rfl, rfl⟩
set_option maxRecDepth 100000 in
theorem neqCh (x y : Ch) (w : World) : (binOp .neq 24 (.agg #[.int .i64 x.r, .int .i64 x.c, .int .i64 x.f, .int .i64 x.s, .int .i64 x.v]) (.agg #[.int .i64 y.r, .int .i64 y.c, .int .i64 y.f, .int .i64 y.s, .int .i64 y.v])).run Try.prog w = .ok (.bool (!decide (x = y))) w := by
  have u_int := Try.underlying3; have a_int := Try.isAgg3; have z_int := Try.sizeOf3
  have hS : Try.prog.underlying 24 = some (.struct (Try.prog.fieldsOf 24)) := by kernel_rfl
  have hp : Try.prog.stoodInHeld 24 = false := by kernel_rfl
  rw [run_neq_struct, show (10000 : Nat) = 9999 + 1 from rfl, run_equalIn_agg w 9999 24 _ _ hS hp]
  simp only [Program.fieldsOf, Try.underlying24]
  clear hS hp
  go_simp
  obtain ⟨x0, x1, x2, x3, x4⟩ := x
  obtain ⟨y0, y1, y2, y3, y4⟩ := y
  dsimp only
  by_cases h0 : x0 = y0
  rotate_left
  · simp [h0]
  subst h0
  by_cases h1 : x1 = y1
  rotate_left
  · simp [h1]
  subst h1
  by_cases h2 : x2 = y2
  rotate_left
  · simp [h2]
  subst h2
  by_cases h3 : x3 = y3
  rotate_left
  · simp [h3]
  subst h3
  by_cases h4 : x4 = y4
  rotate_left
  · simp [h4]
  subst h4
  simp
set_option maxRecDepth 100000 in
set_option maxHeartbeats 2000000 in
theorem agree1_a (g : Nat) (A : Option Addr) (cap : Nat) (b : List Ch) (x : Ch) (w : World) (hc : w.cell? ⟨g, 0, none⟩ = some (.slice A b.length cap)) (hg : g < w.heap.size) (h : CRow w A b) (hl : b.length ≤ 1000) (hm : mayL b = true) :
    Calls Try.prog 24 #[x.val, .pointer (some ⟨g, 0, none⟩)] w fun e w' => e = .returned (.bool (agB b x)) ∧ Below w.heap.size w w' := by
  have PL := hide fun (w' : World) (hb : Below w.heap.size w w') => place_a A cap b x w' (h.below hb) hl hm
  have H := hide h
  have HC := hide hc
  have hq : Try.prog.eqGuardType Try.prog.depth 24 = false := by kernel_rfl
  rcases fnd_cases b x with ⟨hf, ha, hw⟩ | ⟨hi, hf, ha, hw⟩
  · have E : Hid (agB b x = false) := hide ha
    rw [hf] at PL
    clear hf ha hw h hc
    generalize posL b x = i at *
    generalize agB b x = z at *
    obtain rfl := E.out
    obtain ⟨xr, xc, xf, xs, xv⟩ := x
    unfold Ch.val at PL ⊢
    simp only at PL ⊢
    have hb1 := (Below.refl w.heap.size w).alloc (Nat.le_refl _) (.cells #[.int .i64 xr, .int .i64 xc, .int .i64 xf, .int .i64 xs, .int .i64 xv] 24)
    have bk := Blk.new w 24 #[.int .i64 xr, .int .i64 xc, .int .i64 xf, .int .i64 xs, .int .i64 xv]
    have hs1 : w.heap.size < (w.alloc (.cells #[.int .i64 xr, .int .i64 xc, .int .i64 xf, .int .i64 xs, .int .i64 xv] 24)).heap.size := by simp
    have qg := (hb1.cell (p := ⟨g, 0, none⟩) hg).trans HC.out
    go_enter Try.func24, Try.ntmps24
    go_wp2_with fail
    generalize w.alloc (.cells #[.int .i64 xr, .int .i64 xc, .int .i64 xf, .int .i64 xs, .int .i64 xv] 24) = W1 at *
    have P1 := hide (PL.out W1 hb1)
    have HB1 := hide hb1
    have BK := hide bk
    have q0 := bk.cell 0
    have q1 := bk.cell 1
    have q2 := bk.cell 2
    have q3 := bk.cell 3
    have q4 := bk.cell 4
    simp only [List.getElem?_toArray, List.getElem?_cons_zero, List.getElem?_cons_succ] at q0 q1 q2 q3 q4
    clear hb1 bk PL
    refine P1.out.mono ?_
    rintro e w2 ⟨rfl, hb2⟩
    have r0 := (hb2.cell (p := ⟨w.heap.size, 0, none⟩) hs1).trans q0
    have r1 := (hb2.cell (p := ⟨w.heap.size, 1, none⟩) hs1).trans q1
    have r2 := (hb2.cell (p := ⟨w.heap.size, 2, none⟩) hs1).trans q2
    have r3 := (hb2.cell (p := ⟨w.heap.size, 3, none⟩) hs1).trans q3
    have r4 := (hb2.cell (p := ⟨w.heap.size, 4, none⟩) hs1).trans q4
    have rg := (hb2.cell (p := ⟨g, 0, none⟩) (Nat.lt_of_lt_of_le hg HB1.out.size)).trans qg
    have HB2 := hide (HB1.out.trans (hb2.mono HB1.out.size))
    clear hb2 q0 q1 q2 q3 q4 qg
    go_wp2_with fail
    go_quiet (fail)
    go_wp2_with fail
    go_ret
    exact ⟨rfl, below_drewN HB2.out _⟩
  · have NQ := neqCh (b[posL b x]'hi) x
    have E : Hid (agB b x = !decide (b[posL b x] = x)) := hide ha
    rw [hf] at PL
    clear hf ha hw hc h
    generalize posL b x = i at *
    generalize agB b x = z at *
    have mI : (i : Int) < (b.length : Int) := by omega
    rcases hd : decide (b[i] = x) with _ | _
    · rw [hd] at NQ E
      clear hd
      obtain rfl := E.out
      have RW := hide fun (w' : World) (hb : Below w.heap.size w w') => (H.out.below hb).at_ hi
      generalize b[i] = tk at *
      obtain ⟨r, c, f, s, v⟩ := tk
      obtain ⟨xr, xc, xf, xs, xv⟩ := x
      unfold Ch.val at PL ⊢
      simp only at PL NQ RW ⊢
      have hb1 := (Below.refl w.heap.size w).alloc (Nat.le_refl _) (.cells #[.int .i64 xr, .int .i64 xc, .int .i64 xf, .int .i64 xs, .int .i64 xv] 24)
      have bk := Blk.new w 24 #[.int .i64 xr, .int .i64 xc, .int .i64 xf, .int .i64 xs, .int .i64 xv]
      have hs1 : w.heap.size < (w.alloc (.cells #[.int .i64 xr, .int .i64 xc, .int .i64 xf, .int .i64 xs, .int .i64 xv] 24)).heap.size := by simp
      have qg := (hb1.cell (p := ⟨g, 0, none⟩) hg).trans HC.out
      go_enter Try.func24, Try.ntmps24
      go_wp2_with fail
      generalize w.alloc (.cells #[.int .i64 xr, .int .i64 xc, .int .i64 xf, .int .i64 xs, .int .i64 xv] 24) = W1 at *
      have P1 := hide (PL.out W1 hb1)
      have HB1 := hide hb1
      have BK := hide bk
      have q0 := bk.cell 0
      have q1 := bk.cell 1
      have q2 := bk.cell 2
      have q3 := bk.cell 3
      have q4 := bk.cell 4
      simp only [List.getElem?_toArray, List.getElem?_cons_zero, List.getElem?_cons_succ] at q0 q1 q2 q3 q4
      clear hb1 bk PL
      refine P1.out.mono ?_
      rintro e w2 ⟨rfl, hb2⟩
      have r0 := (hb2.cell (p := ⟨w.heap.size, 0, none⟩) hs1).trans q0
      have r1 := (hb2.cell (p := ⟨w.heap.size, 1, none⟩) hs1).trans q1
      have r2 := (hb2.cell (p := ⟨w.heap.size, 2, none⟩) hs1).trans q2
      have r3 := (hb2.cell (p := ⟨w.heap.size, 3, none⟩) hs1).trans q3
      have r4 := (hb2.cell (p := ⟨w.heap.size, 4, none⟩) hs1).trans q4
      have rg := (hb2.cell (p := ⟨g, 0, none⟩) (Nat.lt_of_lt_of_le hg HB1.out.size)).trans qg
      have HB2 := hide (HB1.out.trans (hb2.mono HB1.out.size))
      clear hb2 q0 q1 q2 q3 q4 qg
      obtain ⟨a, rfl, ha, hok, h0, h1, h2, h3, h4⟩ := RW.out w2 HB2.out
      simp only at h0 h1 h2 h3 h4
      clear hok
      go_wp2_with fail
      go_quiet (fail)
      go_wp2_with fail
      go_ret
      exact ⟨rfl, below_drewN HB2.out _⟩
    · rw [hd] at NQ E
      clear hd
      obtain rfl := E.out
      have RW := hide fun (w' : World) (hb : Below w.heap.size w w') => (H.out.below hb).at_ hi
      generalize b[i] = tk at *
      obtain ⟨r, c, f, s, v⟩ := tk
      obtain ⟨xr, xc, xf, xs, xv⟩ := x
      unfold Ch.val at PL ⊢
      simp only at PL NQ RW ⊢
      have hb1 := (Below.refl w.heap.size w).alloc (Nat.le_refl _) (.cells #[.int .i64 xr, .int .i64 xc, .int .i64 xf, .int .i64 xs, .int .i64 xv] 24)
      have bk := Blk.new w 24 #[.int .i64 xr, .int .i64 xc, .int .i64 xf, .int .i64 xs, .int .i64 xv]
      have hs1 : w.heap.size < (w.alloc (.cells #[.int .i64 xr, .int .i64 xc, .int .i64 xf, .int .i64 xs, .int .i64 xv] 24)).heap.size := by simp
      have qg := (hb1.cell (p := ⟨g, 0, none⟩) hg).trans HC.out
      go_enter Try.func24, Try.ntmps24
      go_wp2_with fail
      generalize w.alloc (.cells #[.int .i64 xr, .int .i64 xc, .int .i64 xf, .int .i64 xs, .int .i64 xv] 24) = W1 at *
      have P1 := hide (PL.out W1 hb1)
      have HB1 := hide hb1
      have BK := hide bk
      have q0 := bk.cell 0
      have q1 := bk.cell 1
      have q2 := bk.cell 2
      have q3 := bk.cell 3
      have q4 := bk.cell 4
      simp only [List.getElem?_toArray, List.getElem?_cons_zero, List.getElem?_cons_succ] at q0 q1 q2 q3 q4
      clear hb1 bk PL
      refine P1.out.mono ?_
      rintro e w2 ⟨rfl, hb2⟩
      have r0 := (hb2.cell (p := ⟨w.heap.size, 0, none⟩) hs1).trans q0
      have r1 := (hb2.cell (p := ⟨w.heap.size, 1, none⟩) hs1).trans q1
      have r2 := (hb2.cell (p := ⟨w.heap.size, 2, none⟩) hs1).trans q2
      have r3 := (hb2.cell (p := ⟨w.heap.size, 3, none⟩) hs1).trans q3
      have r4 := (hb2.cell (p := ⟨w.heap.size, 4, none⟩) hs1).trans q4
      have rg := (hb2.cell (p := ⟨g, 0, none⟩) (Nat.lt_of_lt_of_le hg HB1.out.size)).trans qg
      have HB2 := hide (HB1.out.trans (hb2.mono HB1.out.size))
      clear hb2 q0 q1 q2 q3 q4 qg
      obtain ⟨a, rfl, ha, hok, h0, h1, h2, h3, h4⟩ := RW.out w2 HB2.out
      simp only at h0 h1 h2 h3 h4
      clear hok
      go_wp2_with fail
      go_quiet (fail)
      go_wp2_with fail
      go_ret
      exact ⟨rfl, below_drewN HB2.out _⟩
end Go.Proofs.Ytnmaclpjddafnaa
