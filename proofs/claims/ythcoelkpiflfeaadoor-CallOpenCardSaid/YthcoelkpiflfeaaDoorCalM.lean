/- Whether a field of a call may be: the program. -/
import Derived.Test.YthcoelkpiflfeaaDoorRows
import Derived.Test.YthcoelkpiflfeaaDoorCalL
namespace Go.Proofs.YthcoelkpiflfeaaDoor
open Go Go.RowKit Go.Lib Go.Proofs.YthcoelkpiflfeaaDoor.Grp
set_option linter.unusedVariables false
set_option linter.unusedSimpArgs false
namespace Cal
section
variable {c : Cl} {n : Nat}
theorem mF0 : mayF c n 0 ↔ (0 ≤ c.co ∧ c.co < 32) := Iff.rfl
theorem mF1 : mayF c n 1 ↔ ((0 ≤ c.pe ∧ c.pe < n) ∨ (wildK c.k ∧ c.pe = -1)) := Iff.rfl
theorem mF2 : mayF c n 2 ↔ ((0 ≤ c.tg ∧ c.tg ≤ 32767) ∨ (wildK c.k ∧ c.tg = -1)) := Iff.rfl
theorem mF4 : mayF c n 4 ↔ (1 ≤ c.sz ∧ c.sz ≤ 64) := Iff.rfl
theorem mF5 : mayF c n 5 ↔ (0 ≤ c.ro ∧ c.ro < n) := Iff.rfl
theorem mF6 : mayF c n 6 ↔ c.op ≤ 2 := Iff.rfl
theorem mF7 : mayF c n 7 ↔ mayR c := Iff.rfl
theorem mF3 : mayF c n 3 := trivial
theorem mF8 : mayF c n 8 := trivial
theorem mF9 : mayF c n 9 := trivial
end
theorem used_7 {k : Int} (h : (7 : Int) ∈ usedL k) : kindR k := by
  unfold usedL at h
  unfold kindR
  repeat' split at h
  all_goals simp at h
  all_goals assumption
set_option maxRecDepth 100000 in
set_option maxHeartbeats 8000000 in
theorem mayField_0 (c : Cl) (ra : Option Addr) (rc : Nat) (key : ByteArray) (A : Option Addr) (gc : Nat) (l : List Int) (w : World) (hr : NRow w ra c.rq) (hrc : c.rq.length ≤ rc) (hl : c.rq.length ≤ 1000) (hg : NRow w A l) (hgl : l.length ≤ 1000) :
    Calls Tryd.prog 43 #[.agg #[.int .u8 c.k, .int .i64 c.co, .int .i64 c.pe, .int .i64 c.tg, .int .i64 c.va, .int .i64 c.sz, .int .i64 c.ro, .int .u8 c.op, .slice ra c.rq.length rc, .int .i64 c.cl, .int .i64 c.ky], .int .i64 0, .agg #[.string key, .slice A l.length gc]] w fun e w' => e = .returned (.bool (decide (mayF c l.length 0))) ∧ Below w.heap.size w w' := by
  have b2 := ((Below.refl w.heap.size w).alloc (Nat.le_refl _) (.cells #[.int .u8 c.k, .int .i64 c.co, .int .i64 c.pe, .int .i64 c.tg, .int .i64 c.va, .int .i64 c.sz, .int .i64 c.ro, .int .u8 c.op, .slice ra c.rq.length rc, .int .i64 c.cl, .int .i64 c.ky] 24)).alloc (by simp) (.cells #[.string key, .slice A l.length gc] 37)
  have HB := hide b2
  have RV := hide (fun (w1 : World) => receives_c c.k w1)
  by_cases h0 : 0 ≤ c.co
  · by_cases h1 : c.co < 32
    · rw [decide_eq_true (mF0.2 ⟨h0, h1⟩)]
      clear hr hrc hl hg hgl b2
      go_enter Tryd.func43, Tryd.ntmps43
      go_wp2_with fail
      refine (RV.out _).mono ?_
      rintro e w' ⟨rfl, rfl⟩
      generalize decide (wildK c.k) = wb at *
      go_wp2_with fail
      go_ret
      exact ⟨rfl, HB.out⟩
    · rw [decide_eq_false (fun h => h1 (mF0.1 h).2)]
      have h2 : 32 ≤ c.co := by omega
      have D := hide (decide_eq_false h1)
      clear hr hrc hl hg hgl b2
      go_enter Tryd.func43, Tryd.ntmps43
      go_wp2_with fail
      refine (RV.out _).mono ?_
      rintro e w' ⟨rfl, rfl⟩
      generalize decide (wildK c.k) = wb at *
      go_wp2_with fail
      go_ret
      first
        | exact ⟨rfl, HB.out⟩
        | exact ⟨by show Ending.returned (.bool (decide (c.co < 32))) = _; rw [D.out], HB.out⟩
  · rw [decide_eq_false (fun h => h0 (mF0.1 h).1)]
    have h2 : c.co < 0 := by omega
    clear hr hrc hl hg hgl b2
    go_enter Tryd.func43, Tryd.ntmps43
    go_wp2_with fail
    refine (RV.out _).mono ?_
    rintro e w' ⟨rfl, rfl⟩
    generalize decide (wildK c.k) = wb at *
    go_wp2_with fail
    go_ret
    exact ⟨rfl, HB.out⟩
set_option maxRecDepth 100000 in
set_option maxHeartbeats 8000000 in
theorem mayField_3 (c : Cl) (ra : Option Addr) (rc : Nat) (key : ByteArray) (A : Option Addr) (gc : Nat) (l : List Int) (w : World) (hr : NRow w ra c.rq) (hrc : c.rq.length ≤ rc) (hl : c.rq.length ≤ 1000) (hg : NRow w A l) (hgl : l.length ≤ 1000) :
    Calls Tryd.prog 43 #[.agg #[.int .u8 c.k, .int .i64 c.co, .int .i64 c.pe, .int .i64 c.tg, .int .i64 c.va, .int .i64 c.sz, .int .i64 c.ro, .int .u8 c.op, .slice ra c.rq.length rc, .int .i64 c.cl, .int .i64 c.ky], .int .i64 3, .agg #[.string key, .slice A l.length gc]] w fun e w' => e = .returned (.bool (decide (mayF c l.length 3))) ∧ Below w.heap.size w w' := by
  have b2 := ((Below.refl w.heap.size w).alloc (Nat.le_refl _) (.cells #[.int .u8 c.k, .int .i64 c.co, .int .i64 c.pe, .int .i64 c.tg, .int .i64 c.va, .int .i64 c.sz, .int .i64 c.ro, .int .u8 c.op, .slice ra c.rq.length rc, .int .i64 c.cl, .int .i64 c.ky] 24)).alloc (by simp) (.cells #[.string key, .slice A l.length gc] 37)
  have HB := hide b2
  have RV := hide (fun (w1 : World) => receives_c c.k w1)
  rw [decide_eq_true mF3]
  clear hr hrc hl hg hgl b2
  go_enter Tryd.func43, Tryd.ntmps43
  go_wp2_with fail
  refine (RV.out _).mono ?_
  rintro e w' ⟨rfl, rfl⟩
  generalize decide (wildK c.k) = wb at *
  go_wp2_with fail
  go_ret
  exact ⟨rfl, HB.out⟩
set_option maxRecDepth 100000 in
set_option maxHeartbeats 8000000 in
theorem mayField_8 (c : Cl) (ra : Option Addr) (rc : Nat) (key : ByteArray) (A : Option Addr) (gc : Nat) (l : List Int) (w : World) (hr : NRow w ra c.rq) (hrc : c.rq.length ≤ rc) (hl : c.rq.length ≤ 1000) (hg : NRow w A l) (hgl : l.length ≤ 1000) :
    Calls Tryd.prog 43 #[.agg #[.int .u8 c.k, .int .i64 c.co, .int .i64 c.pe, .int .i64 c.tg, .int .i64 c.va, .int .i64 c.sz, .int .i64 c.ro, .int .u8 c.op, .slice ra c.rq.length rc, .int .i64 c.cl, .int .i64 c.ky], .int .i64 8, .agg #[.string key, .slice A l.length gc]] w fun e w' => e = .returned (.bool (decide (mayF c l.length 8))) ∧ Below w.heap.size w w' := by
  have b2 := ((Below.refl w.heap.size w).alloc (Nat.le_refl _) (.cells #[.int .u8 c.k, .int .i64 c.co, .int .i64 c.pe, .int .i64 c.tg, .int .i64 c.va, .int .i64 c.sz, .int .i64 c.ro, .int .u8 c.op, .slice ra c.rq.length rc, .int .i64 c.cl, .int .i64 c.ky] 24)).alloc (by simp) (.cells #[.string key, .slice A l.length gc] 37)
  have HB := hide b2
  have RV := hide (fun (w1 : World) => receives_c c.k w1)
  rw [decide_eq_true mF8]
  clear hr hrc hl hg hgl b2
  go_enter Tryd.func43, Tryd.ntmps43
  go_wp2_with fail
  refine (RV.out _).mono ?_
  rintro e w' ⟨rfl, rfl⟩
  generalize decide (wildK c.k) = wb at *
  go_wp2_with fail
  go_ret
  exact ⟨rfl, HB.out⟩
set_option maxRecDepth 100000 in
set_option maxHeartbeats 8000000 in
theorem mayField_9 (c : Cl) (ra : Option Addr) (rc : Nat) (key : ByteArray) (A : Option Addr) (gc : Nat) (l : List Int) (w : World) (hr : NRow w ra c.rq) (hrc : c.rq.length ≤ rc) (hl : c.rq.length ≤ 1000) (hg : NRow w A l) (hgl : l.length ≤ 1000) :
    Calls Tryd.prog 43 #[.agg #[.int .u8 c.k, .int .i64 c.co, .int .i64 c.pe, .int .i64 c.tg, .int .i64 c.va, .int .i64 c.sz, .int .i64 c.ro, .int .u8 c.op, .slice ra c.rq.length rc, .int .i64 c.cl, .int .i64 c.ky], .int .i64 9, .agg #[.string key, .slice A l.length gc]] w fun e w' => e = .returned (.bool (decide (mayF c l.length 9))) ∧ Below w.heap.size w w' := by
  have b2 := ((Below.refl w.heap.size w).alloc (Nat.le_refl _) (.cells #[.int .u8 c.k, .int .i64 c.co, .int .i64 c.pe, .int .i64 c.tg, .int .i64 c.va, .int .i64 c.sz, .int .i64 c.ro, .int .u8 c.op, .slice ra c.rq.length rc, .int .i64 c.cl, .int .i64 c.ky] 24)).alloc (by simp) (.cells #[.string key, .slice A l.length gc] 37)
  have HB := hide b2
  have RV := hide (fun (w1 : World) => receives_c c.k w1)
  rw [decide_eq_true mF9]
  clear hr hrc hl hg hgl b2
  go_enter Tryd.func43, Tryd.ntmps43
  go_wp2_with fail
  refine (RV.out _).mono ?_
  rintro e w' ⟨rfl, rfl⟩
  generalize decide (wildK c.k) = wb at *
  go_wp2_with fail
  go_ret
  exact ⟨rfl, HB.out⟩
set_option maxRecDepth 100000 in
set_option maxHeartbeats 8000000 in
theorem mayField_4 (c : Cl) (ra : Option Addr) (rc : Nat) (key : ByteArray) (A : Option Addr) (gc : Nat) (l : List Int) (w : World) (hr : NRow w ra c.rq) (hrc : c.rq.length ≤ rc) (hl : c.rq.length ≤ 1000) (hg : NRow w A l) (hgl : l.length ≤ 1000) :
    Calls Tryd.prog 43 #[.agg #[.int .u8 c.k, .int .i64 c.co, .int .i64 c.pe, .int .i64 c.tg, .int .i64 c.va, .int .i64 c.sz, .int .i64 c.ro, .int .u8 c.op, .slice ra c.rq.length rc, .int .i64 c.cl, .int .i64 c.ky], .int .i64 4, .agg #[.string key, .slice A l.length gc]] w fun e w' => e = .returned (.bool (decide (mayF c l.length 4))) ∧ Below w.heap.size w w' := by
  have b2 := ((Below.refl w.heap.size w).alloc (Nat.le_refl _) (.cells #[.int .u8 c.k, .int .i64 c.co, .int .i64 c.pe, .int .i64 c.tg, .int .i64 c.va, .int .i64 c.sz, .int .i64 c.ro, .int .u8 c.op, .slice ra c.rq.length rc, .int .i64 c.cl, .int .i64 c.ky] 24)).alloc (by simp) (.cells #[.string key, .slice A l.length gc] 37)
  have HB := hide b2
  have RV := hide (fun (w1 : World) => receives_c c.k w1)
  by_cases h0 : 1 ≤ c.sz
  · by_cases h1 : c.sz ≤ 64
    · rw [decide_eq_true (mF4.2 ⟨h0, h1⟩)]
      clear hr hrc hl hg hgl b2
      go_enter Tryd.func43, Tryd.ntmps43
      go_wp2_with fail
      refine (RV.out _).mono ?_
      rintro e w' ⟨rfl, rfl⟩
      generalize decide (wildK c.k) = wb at *
      go_wp2_with fail
      go_ret
      exact ⟨rfl, HB.out⟩
    · rw [decide_eq_false (fun h => h1 (mF4.1 h).2)]
      have h2 : 64 < c.sz := by omega
      have D := hide (decide_eq_false h1)
      clear hr hrc hl hg hgl b2
      go_enter Tryd.func43, Tryd.ntmps43
      go_wp2_with fail
      refine (RV.out _).mono ?_
      rintro e w' ⟨rfl, rfl⟩
      generalize decide (wildK c.k) = wb at *
      go_wp2_with fail
      go_ret
      first
        | exact ⟨rfl, HB.out⟩
        | exact ⟨by show Ending.returned (.bool (decide (c.sz ≤ 64))) = _; rw [D.out], HB.out⟩
  · rw [decide_eq_false (fun h => h0 (mF4.1 h).1)]
    have h2 : c.sz < 1 := by omega
    clear hr hrc hl hg hgl b2
    go_enter Tryd.func43, Tryd.ntmps43
    go_wp2_with fail
    refine (RV.out _).mono ?_
    rintro e w' ⟨rfl, rfl⟩
    generalize decide (wildK c.k) = wb at *
    go_wp2_with fail
    go_ret
    exact ⟨rfl, HB.out⟩
set_option maxRecDepth 100000 in
set_option maxHeartbeats 8000000 in
theorem mayField_6 (c : Cl) (ra : Option Addr) (rc : Nat) (key : ByteArray) (A : Option Addr) (gc : Nat) (l : List Int) (w : World) (hr : NRow w ra c.rq) (hrc : c.rq.length ≤ rc) (hl : c.rq.length ≤ 1000) (hg : NRow w A l) (hgl : l.length ≤ 1000) :
    Calls Tryd.prog 43 #[.agg #[.int .u8 c.k, .int .i64 c.co, .int .i64 c.pe, .int .i64 c.tg, .int .i64 c.va, .int .i64 c.sz, .int .i64 c.ro, .int .u8 c.op, .slice ra c.rq.length rc, .int .i64 c.cl, .int .i64 c.ky], .int .i64 6, .agg #[.string key, .slice A l.length gc]] w fun e w' => e = .returned (.bool (decide (mayF c l.length 6))) ∧ Below w.heap.size w w' := by
  have b2 := ((Below.refl w.heap.size w).alloc (Nat.le_refl _) (.cells #[.int .u8 c.k, .int .i64 c.co, .int .i64 c.pe, .int .i64 c.tg, .int .i64 c.va, .int .i64 c.sz, .int .i64 c.ro, .int .u8 c.op, .slice ra c.rq.length rc, .int .i64 c.cl, .int .i64 c.ky] 24)).alloc (by simp) (.cells #[.string key, .slice A l.length gc] 37)
  have HB := hide b2
  have RV := hide (fun (w1 : World) => receives_c c.k w1)
  by_cases h0 : c.op ≤ 2
  · rw [decide_eq_true (mF6.2 h0)]
    clear hr hrc hl hg hgl b2
    go_enter Tryd.func43, Tryd.ntmps43
    go_wp2_with fail
    refine (RV.out _).mono ?_
    rintro e w' ⟨rfl, rfl⟩
    generalize decide (wildK c.k) = wb at *
    go_wp2_with fail
    go_ret
    exact ⟨rfl, HB.out⟩
  · rw [decide_eq_false (fun h => h0 (mF6.1 h))]
    have h2 : 2 < c.op := by omega
    have D := hide (decide_eq_false h0)
    clear hr hrc hl hg hgl b2
    go_enter Tryd.func43, Tryd.ntmps43
    go_wp2_with fail
    refine (RV.out _).mono ?_
    rintro e w' ⟨rfl, rfl⟩
    generalize decide (wildK c.k) = wb at *
    go_wp2_with fail
    go_ret
    first
      | exact ⟨rfl, HB.out⟩
      | exact ⟨by show Ending.returned (.bool (decide (c.op ≤ 2))) = _; rw [D.out], HB.out⟩
set_option maxRecDepth 100000 in
set_option maxHeartbeats 8000000 in
theorem mayField_5 (c : Cl) (ra : Option Addr) (rc : Nat) (key : ByteArray) (A : Option Addr) (gc : Nat) (l : List Int) (w : World) (hr : NRow w ra c.rq) (hrc : c.rq.length ≤ rc) (hl : c.rq.length ≤ 1000) (hg : NRow w A l) (hgl : l.length ≤ 1000) :
    Calls Tryd.prog 43 #[.agg #[.int .u8 c.k, .int .i64 c.co, .int .i64 c.pe, .int .i64 c.tg, .int .i64 c.va, .int .i64 c.sz, .int .i64 c.ro, .int .u8 c.op, .slice ra c.rq.length rc, .int .i64 c.cl, .int .i64 c.ky], .int .i64 5, .agg #[.string key, .slice A l.length gc]] w fun e w' => e = .returned (.bool (decide (mayF c l.length 5))) ∧ Below w.heap.size w w' := by
  have b2 := ((Below.refl w.heap.size w).alloc (Nat.le_refl _) (.cells #[.int .u8 c.k, .int .i64 c.co, .int .i64 c.pe, .int .i64 c.tg, .int .i64 c.va, .int .i64 c.sz, .int .i64 c.ro, .int .u8 c.op, .slice ra c.rq.length rc, .int .i64 c.cl, .int .i64 c.ky] 24)).alloc (by simp) (.cells #[.string key, .slice A l.length gc] 37)
  have HB := hide b2
  have RV := hide (fun (w1 : World) => receives_c c.k w1)
  have RK := hide (fun (w1 : World) (h : Below w.heap.size w w1) => Rank_c key A gc l c.ro w1 (hg.below h) (by omega))
  have ED : decide (mayF c l.length 5) = decide (0 ≤ c.ro ∧ c.ro < (l.length : Int)) := rfl
  rw [ED]
  obtain ⟨rb, hrb⟩ : ∃ b, decide (0 ≤ c.ro ∧ c.ro < (l.length : Int)) = b := ⟨_, rfl⟩
  rw [hrb] at RK ⊢
  clear hr hrc hl hg hgl b2 ED hrb
  go_enter Tryd.func43, Tryd.ntmps43
  go_wp2_with fail
  refine (RV.out _).mono ?_
  rintro e w' ⟨rfl, rfl⟩
  generalize decide (wildK c.k) = wb at *
  go_wp2_with fail
  refine (RK.out _ HB.out).mono ?_
  rintro e w9 ⟨⟨v, rfl⟩, hb9⟩
  have FIN := hide (HB.out.trans (hb9.mono HB.out.size))
  clear hb9
  go_wp2_with fail
  go_ret
  exact ⟨rfl, FIN.out⟩
set_option maxRecDepth 100000 in
set_option maxHeartbeats 8000000 in
theorem mayField_7 (c : Cl) (ra : Option Addr) (rc : Nat) (key : ByteArray) (A : Option Addr) (gc : Nat) (l : List Int) (w : World) (hr : NRow w ra c.rq) (hrc : c.rq.length ≤ rc) (hl : c.rq.length ≤ 1000) (hg : NRow w A l) (hgl : l.length ≤ 1000) (hk : kindR c.k) :
    Calls Tryd.prog 43 #[.agg #[.int .u8 c.k, .int .i64 c.co, .int .i64 c.pe, .int .i64 c.tg, .int .i64 c.va, .int .i64 c.sz, .int .i64 c.ro, .int .u8 c.op, .slice ra c.rq.length rc, .int .i64 c.cl, .int .i64 c.ky], .int .i64 7, .agg #[.string key, .slice A l.length gc]] w fun e w' => e = .returned (.bool (decide (mayF c l.length 7))) ∧ Below w.heap.size w w' := by
  have b2 := ((Below.refl w.heap.size w).alloc (Nat.le_refl _) (.cells #[.int .u8 c.k, .int .i64 c.co, .int .i64 c.pe, .int .i64 c.tg, .int .i64 c.va, .int .i64 c.sz, .int .i64 c.ro, .int .u8 c.op, .slice ra c.rq.length rc, .int .i64 c.cl, .int .i64 c.ky] 24)).alloc (by simp) (.cells #[.string key, .slice A l.length gc] 37)
  have HB := hide b2
  have RV := hide (fun (w1 : World) => receives_c c.k w1)
  have MR := hide (fun (w1 : World) (h : Below w.heap.size w w1) => mayReqs_c c hk ra rc w1 (hr.below h) hrc hl)
  have ED : decide (mayF c l.length 7) = decide (mayR c) := rfl
  rw [ED]
  clear hr hrc hl hg hgl b2 ED hk
  go_enter Tryd.func43, Tryd.ntmps43
  go_wp2_with fail
  refine (RV.out _).mono ?_
  rintro e w' ⟨rfl, rfl⟩
  generalize decide (wildK c.k) = wb at *
  go_wp2_with fail
  refine (MR.out _ HB.out).mono ?_
  rintro e w9 ⟨rfl, hb9⟩
  have FIN := hide (HB.out.trans (hb9.mono HB.out.size))
  clear hb9
  go_wp2_with fail
  go_ret
  exact ⟨rfl, FIN.out⟩
set_option maxRecDepth 100000 in
set_option maxHeartbeats 8000000 in
theorem mayField_2 (c : Cl) (ra : Option Addr) (rc : Nat) (key : ByteArray) (A : Option Addr) (gc : Nat) (l : List Int) (w : World) (hr : NRow w ra c.rq) (hrc : c.rq.length ≤ rc) (hl : c.rq.length ≤ 1000) (hg : NRow w A l) (hgl : l.length ≤ 1000) :
    Calls Tryd.prog 43 #[.agg #[.int .u8 c.k, .int .i64 c.co, .int .i64 c.pe, .int .i64 c.tg, .int .i64 c.va, .int .i64 c.sz, .int .i64 c.ro, .int .u8 c.op, .slice ra c.rq.length rc, .int .i64 c.cl, .int .i64 c.ky], .int .i64 2, .agg #[.string key, .slice A l.length gc]] w fun e w' => e = .returned (.bool (decide (mayF c l.length 2))) ∧ Below w.heap.size w w' := by
  have b2 := ((Below.refl w.heap.size w).alloc (Nat.le_refl _) (.cells #[.int .u8 c.k, .int .i64 c.co, .int .i64 c.pe, .int .i64 c.tg, .int .i64 c.va, .int .i64 c.sz, .int .i64 c.ro, .int .u8 c.op, .slice ra c.rq.length rc, .int .i64 c.cl, .int .i64 c.ky] 24)).alloc (by simp) (.cells #[.string key, .slice A l.length gc] 37)
  have HB := hide b2
  have RV := hide (fun (w1 : World) => receives_c c.k w1)
  by_cases h0 : 0 ≤ c.tg
  · by_cases h1 : c.tg ≤ 32767
    · rw [decide_eq_true (mF2.2 (.inl ⟨h0, h1⟩))]
      clear hr hrc hl hg hgl b2
      go_enter Tryd.func43, Tryd.ntmps43
      go_wp2_with fail
      refine (RV.out _).mono ?_
      rintro e w' ⟨rfl, rfl⟩
      generalize decide (wildK c.k) = wb at *
      go_wp2_with fail
      go_ret
      exact ⟨rfl, HB.out⟩
    · have h2 : 32767 < c.tg := by omega
      have D := hide (decide_eq_false h1)
      have h3 : (c.tg == -1) = false := by
        have : ¬ c.tg = -1 := by omega
        simpa using this
      rw [decide_eq_false (fun h => by rcases mF2.1 h with h | h <;> omega)]
      by_cases hw : wildK c.k
      · have EW := decide_eq_true hw
        clear hr hrc hl hg hgl b2
        go_enter Tryd.func43, Tryd.ntmps43
        go_wp2_with fail
        refine (RV.out _).mono ?_
        rintro e w' ⟨rfl, rfl⟩
        rw [EW]
        go_wp2_with fail
        go_ret
        exact ⟨by show Ending.returned (.bool (decide (c.tg ≤ 32767))) = _; rw [D.out], HB.out⟩
      · have EW := decide_eq_false hw
        clear hr hrc hl hg hgl b2
        go_enter Tryd.func43, Tryd.ntmps43
        go_wp2_with fail
        refine (RV.out _).mono ?_
        rintro e w' ⟨rfl, rfl⟩
        rw [EW]
        go_wp2_with fail
        go_ret
        exact ⟨by show Ending.returned (.bool (decide (c.tg ≤ 32767))) = _; rw [D.out], HB.out⟩
  · have h2 : c.tg < 0 := by omega
    by_cases hw : wildK c.k
    · have EW := decide_eq_true hw
      by_cases h3 : c.tg = -1
      · rw [decide_eq_true (mF2.2 (.inr ⟨hw, h3⟩))]
        have h4 : (c.tg == -1) = true := by simpa using h3
        have H3 := hide h3
        clear hr hrc hl hg hgl b2 h3
        go_enter Tryd.func43, Tryd.ntmps43
        go_wp2_with fail
        refine (RV.out _).mono ?_
        rintro e w' ⟨rfl, rfl⟩
        rw [EW]
        go_wp2_with fail
        go_ret
        exact ⟨rfl, HB.out⟩
      · rw [decide_eq_false (fun h => by rcases mF2.1 h with h | h <;> omega)]
        have h4 : (c.tg == -1) = false := by simpa using h3
        have H3 := hide h3
        clear hr hrc hl hg hgl b2 h3
        go_enter Tryd.func43, Tryd.ntmps43
        go_wp2_with fail
        refine (RV.out _).mono ?_
        rintro e w' ⟨rfl, rfl⟩
        rw [EW]
        go_wp2_with fail
        go_ret
        exact ⟨rfl, HB.out⟩
    · have EW := decide_eq_false hw
      rw [decide_eq_false (fun h => by rcases mF2.1 h with h | h; omega; exact hw h.1)]
      clear hr hrc hl hg hgl b2
      go_enter Tryd.func43, Tryd.ntmps43
      go_wp2_with fail
      refine (RV.out _).mono ?_
      rintro e w' ⟨rfl, rfl⟩
      rw [EW]
      go_wp2_with fail
      go_ret
      exact ⟨rfl, HB.out⟩
set_option maxRecDepth 100000 in
set_option maxHeartbeats 8000000 in
theorem mayField_1 (c : Cl) (ra : Option Addr) (rc : Nat) (key : ByteArray) (A : Option Addr) (gc : Nat) (l : List Int) (w : World) (hr : NRow w ra c.rq) (hrc : c.rq.length ≤ rc) (hl : c.rq.length ≤ 1000) (hg : NRow w A l) (hgl : l.length ≤ 1000) :
    Calls Tryd.prog 43 #[.agg #[.int .u8 c.k, .int .i64 c.co, .int .i64 c.pe, .int .i64 c.tg, .int .i64 c.va, .int .i64 c.sz, .int .i64 c.ro, .int .u8 c.op, .slice ra c.rq.length rc, .int .i64 c.cl, .int .i64 c.ky], .int .i64 1, .agg #[.string key, .slice A l.length gc]] w fun e w' => e = .returned (.bool (decide (mayF c l.length 1))) ∧ Below w.heap.size w w' := by
  have b2 := ((Below.refl w.heap.size w).alloc (Nat.le_refl _) (.cells #[.int .u8 c.k, .int .i64 c.co, .int .i64 c.pe, .int .i64 c.tg, .int .i64 c.va, .int .i64 c.sz, .int .i64 c.ro, .int .u8 c.op, .slice ra c.rq.length rc, .int .i64 c.cl, .int .i64 c.ky] 24)).alloc (by simp) (.cells #[.string key, .slice A l.length gc] 37)
  have HB := hide b2
  have RV := hide (fun (w1 : World) => receives_c c.k w1)
  have RK := hide (fun (w1 : World) (h : Below w.heap.size w w1) => Rank_c key A gc l c.pe w1 (hg.below h) (by omega))
  have k1 := Blk.new w 24 #[.int .u8 c.k, .int .i64 c.co, .int .i64 c.pe, .int .i64 c.tg, .int .i64 c.va, .int .i64 c.sz, .int .i64 c.ro, .int .u8 c.op, .slice ra c.rq.length rc, .int .i64 c.cl, .int .i64 c.ky]
  have K1 := hide (k1.below ((Below.refl _ _).alloc (Nat.le_refl _) (.cells #[.string key, .slice A l.length gc] 37)) k1.lt)
  by_cases hp : 0 ≤ c.pe ∧ c.pe < (l.length : Int)
  · rw [decide_eq_true (mF1.2 (.inl hp))]
    have ER := decide_eq_true hp
    clear hr hrc hl hg hgl b2 k1
    go_enter Tryd.func43, Tryd.ntmps43
    go_wp2_with fail
    refine (RV.out _).mono ?_
    rintro e w' ⟨rfl, rfl⟩
    generalize decide (wildK c.k) = wb at *
    go_wp2_with fail
    refine (RK.out _ HB.out).mono ?_
    rintro e w9 ⟨⟨v, rfl⟩, hb9⟩
    have FIN := hide (HB.out.trans (hb9.mono HB.out.size))
    have q2 := (K1.out.below hb9 K1.out.lt).cell 2
    rw [ER]
    clear hb9
    go_wp2_with fail
    go_ret
    exact ⟨rfl, FIN.out⟩
  · have ER := decide_eq_false hp
    by_cases hw : wildK c.k
    · have EW := decide_eq_true hw
      by_cases h3 : c.pe = -1
      · rw [decide_eq_true (mF1.2 (.inr ⟨hw, h3⟩))]
        have h4 : (c.pe == -1) = true := by simpa using h3
        have H3 := hide h3
        clear hr hrc hl hg hgl b2 h3 k1
        go_enter Tryd.func43, Tryd.ntmps43
        go_wp2_with fail
        refine (RV.out _).mono ?_
        rintro e w' ⟨rfl, rfl⟩
        rw [EW]
        go_wp2_with fail
        refine (RK.out _ HB.out).mono ?_
        rintro e w9 ⟨⟨v, rfl⟩, hb9⟩
        have FIN := hide (HB.out.trans (hb9.mono HB.out.size))
        have q2 := (K1.out.below hb9 K1.out.lt).cell 2
        rw [ER]
        clear hb9
        go_wp2_with fail
        go_ret
        exact ⟨rfl, FIN.out⟩
      · rw [decide_eq_false (fun h => by rcases mF1.1 h with h | h; exact hp h; exact h3 h.2)]
        have h4 : (c.pe == -1) = false := by simpa using h3
        have H3 := hide h3
        clear hr hrc hl hg hgl b2 h3 k1
        go_enter Tryd.func43, Tryd.ntmps43
        go_wp2_with fail
        refine (RV.out _).mono ?_
        rintro e w' ⟨rfl, rfl⟩
        rw [EW]
        go_wp2_with fail
        refine (RK.out _ HB.out).mono ?_
        rintro e w9 ⟨⟨v, rfl⟩, hb9⟩
        have FIN := hide (HB.out.trans (hb9.mono HB.out.size))
        have q2 := (K1.out.below hb9 K1.out.lt).cell 2
        rw [ER]
        clear hb9
        go_wp2_with fail
        go_ret
        exact ⟨rfl, FIN.out⟩
    · have EW := decide_eq_false hw
      rw [decide_eq_false (fun h => by rcases mF1.1 h with h | h; exact hp h; exact hw h.1)]
      clear hr hrc hl hg hgl b2 k1
      go_enter Tryd.func43, Tryd.ntmps43
      go_wp2_with fail
      refine (RV.out _).mono ?_
      rintro e w' ⟨rfl, rfl⟩
      rw [EW]
      go_wp2_with fail
      refine (RK.out _ HB.out).mono ?_
      rintro e w9 ⟨⟨v, rfl⟩, hb9⟩
      have FIN := hide (HB.out.trans (hb9.mono HB.out.size))
      have q2 := (K1.out.below hb9 K1.out.lt).cell 2
      rw [ER]
      clear hb9
      go_wp2_with fail
      go_ret
      exact ⟨rfl, FIN.out⟩
theorem mayField_c (c : Cl) (ra : Option Addr) (rc : Nat) (key : ByteArray) (A : Option Addr) (gc : Nat) (l : List Int) (f : Int) (hf : f ∈ usedL c.k) (w : World) (hr : NRow w ra c.rq) (hrc : c.rq.length ≤ rc) (hl : c.rq.length ≤ 1000) (hg : NRow w A l) (hgl : l.length ≤ 1000) :
    Calls Tryd.prog 43 #[.agg #[.int .u8 c.k, .int .i64 c.co, .int .i64 c.pe, .int .i64 c.tg, .int .i64 c.va, .int .i64 c.sz, .int .i64 c.ro, .int .u8 c.op, .slice ra c.rq.length rc, .int .i64 c.cl, .int .i64 c.ky], .int .i64 f, .agg #[.string key, .slice A l.length gc]] w fun e w' => e = .returned (.bool (decide (mayF c l.length f))) ∧ Below w.heap.size w w' := by
  rcases used_mem hf with h | rfl
  · rcases h with rfl | rfl | rfl | rfl | rfl | rfl | rfl | rfl | rfl
    · exact mayField_0 c ra rc key A gc l w hr hrc hl hg hgl
    · exact mayField_1 c ra rc key A gc l w hr hrc hl hg hgl
    · exact mayField_2 c ra rc key A gc l w hr hrc hl hg hgl
    · exact mayField_3 c ra rc key A gc l w hr hrc hl hg hgl
    · exact mayField_4 c ra rc key A gc l w hr hrc hl hg hgl
    · exact mayField_5 c ra rc key A gc l w hr hrc hl hg hgl
    · exact mayField_6 c ra rc key A gc l w hr hrc hl hg hgl
    · exact mayField_8 c ra rc key A gc l w hr hrc hl hg hgl
    · exact mayField_9 c ra rc key A gc l w hr hrc hl hg hgl
  · exact mayField_7 c ra rc key A gc l w hr hrc hl hg hgl (used_7 hf)
end Cal
end Go.Proofs.YthcoelkpiflfeaaDoor
