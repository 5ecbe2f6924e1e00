/- Two calls are the same: the program. -/
import Derived.Test.YthcoelkpiflfeaaDoorRows
import Derived.Test.YthcoelkpiflfeaaDoorCalE
import Derived.BigQuiet
namespace Go.Proofs.YthcoelkpiflfeaaDoor
open Go Go.RowKit Go.Lib Go.Proofs.YthcoelkpiflfeaaDoor.Grp
set_option linter.unusedVariables false
set_option linter.unusedSimpArgs false
namespace Cal
theorem ints_eq {a b : List Int} (hn : a.length = b.length) (h : ∀ i, i < a.length → a.getD i 0 = b.getD i 0) : decide (a = b) = true := by
  refine decide_eq_true (List.ext_getElem hn fun i h1 h2 => ?_)
  have := h i h1
  rw [List.getD, List.getD, List.getElem?_eq_getElem h1, List.getElem?_eq_getElem h2] at this
  exact this
theorem ints_ne {a b : List Int} {i : Nat} (h : ¬ a.getD i 0 = b.getD i 0) : decide (a = b) = false := decide_eq_false fun e => h (by rw [e])
set_option maxRecDepth 100000 in
set_option maxHeartbeats 2000000 in
theorem Equal_a (A B : Option Addr) (ca cb : Nat) (a b : List Int) (w : World) (ha : NRow w A a) (hb : NRow w B b) (hla : a.length ≤ 100000) (hlb : b.length ≤ 100000) :
    Calls Tryd.prog 45 #[.slice A a.length ca, .slice B b.length cb] w fun e w' => e = .returned (.bool (decide (a = b))) ∧ Below w.heap.size w w' := by
  have HA := hide ha
  have HC := hide hb
  clear ha hb
  by_cases hn : a.length = b.length
  rotate_left
  · have E : Hid (decide (a = b) = false) := hide (decide_eq_false fun e => hn (by rw [e]))
    have h0 : ¬ (a.length : Int) = (b.length : Int) := by omega
    have h1 : ((a.length : Int) == (b.length : Int)) = false := by simpa using h0
    have h2 : ((a.length : Int) != (b.length : Int)) = true := by simpa using h0
    clear h0
    go_enter Tryd.func45, Tryd.ntmps45
    go_wp2_with fail
    go_ret
    exact ⟨by rw [E.out]; rfl, Below.refl _ _⟩
  have EQ := hide (fun h => ints_eq hn h)
  have NE := hide (fun (i : Nat) h => @ints_ne a b i h)
  have LN := hide hn
  have h1 : ((a.length : Int) == (b.length : Int)) = true := by simp [hn]
  have h2 : ((a.length : Int) != (b.length : Int)) = false := by simp [hn]
  clear hn
  generalize decide (a = b) = res at *
  go_enter Tryd.func45, Tryd.ntmps45
  go_wp2_with fail
  go_loopw [5, 13] (fun v5 vi wr => ∃ i : Nat, i ≤ a.length ∧ vi = .int .i64 i ∧ Hid (∀ k, k < i → a.getD k 0 = b.getD k 0) ∧ Hid (Below w.heap.size w wr)) (fun _ vi _ => a.length - (RowKit.intOf vi).toNat)
  case atStart => exact ⟨0, Nat.zero_le _, rfl, hide (fun k hk => absurd hk (Nat.not_lt_zero k)), hide (Below.refl _ _)⟩
  case round =>
    obtain ⟨i, hi, rfl, HN, HB⟩ := hrel
    by_cases hlt : i < a.length
    · have hlb2 : i < b.length := by have := LN.out; omega
      obtain ⟨p, rfl, hp, hcp⟩ := HA.out.below HB.out (by omega)
      obtain ⟨q, rfl, hq, hcq⟩ := HC.out.below HB.out (by omega)
      have g0 := hcp i hlt
      have g1 := hcq i hlb2
      have ltI : (i : Int) < (a.length : Int) := by omega
      have ltJ : (i : Int) < (b.length : Int) := by omega
      have HN2 : Hid (a.getD i 0 = b.getD i 0 → ∀ k, k < i + 1 → a.getD k 0 = b.getD k 0) := hide fun hx k hk => by
        rcases Nat.lt_or_ge k i with h7 | h7
        · exact HN.out k h7
        · obtain rfl : k = i := by omega
          exact hx
      have HF := hide (NE.out i)
      clear hcp hcq
      generalize a.getD i 0 = x at *
      generalize b.getD i 0 = y at *
      by_cases hx : x = y
      · have e1 : (x == y) = true := by simp [hx]
        have e2 : (x != y) = false := by simp [hx]
        have HN3 := hide (HN2.out hx)
        subst hx
        clear HN2 HF
        go_wp2_with fail
        go_quiet (fail)
        go_wp2_with fail
        go_roundw
        case rel => exact ⟨i + 1, by omega, by first | trivial | go_num, HN3, hide (below_drewN HB.out _)⟩
        case measure => simp [RowKit.intOf]; omega
      · have R : res = false := HF.out hx
        subst R
        have e1 : (x == y) = false := by simpa using hx
        have e2 : (x != y) = true := by simpa using hx
        have HX := hide hx
        clear HN2 HF hx
        go_wp2_with fail
        go_quiet (fail)
        go_wp2_with fail
        go_ret
        exact ⟨rfl, below_drewN HB.out _⟩
    · have R : res = true := EQ.out fun k hk => HN.out k (by omega)
      subst R
      have ltI : ¬ (i : Int) < (a.length : Int) := by omega
      go_wp2_with fail
      go_ret
      exact ⟨rfl, HB.out⟩
set_option maxRecDepth 100000 in
set_option maxHeartbeats 16000000 in
theorem Same_0 (k co pe tg va sz ro op cl ky k' co' pe' tg' va' sz' ro' op' cl' ky' : Int) (rq rq' : List Int) (ra rb : Option Addr) (rc rd : Nat) (w : World) (ha : NRow w ra rq) (hb : NRow w rb rq') (hla : rq.length ≤ 100000) (hlb : rq'.length ≤ 100000) :
    Calls Tryd.prog 16 #[.agg #[.int .u8 k, .int .i64 co, .int .i64 pe, .int .i64 tg, .int .i64 va, .int .i64 sz, .int .i64 ro, .int .u8 op, .slice ra rq.length rc, .int .i64 cl, .int .i64 ky], .agg #[.int .u8 k', .int .i64 co', .int .i64 pe', .int .i64 tg', .int .i64 va', .int .i64 sz', .int .i64 ro', .int .u8 op', .slice rb rq'.length rd, .int .i64 cl', .int .i64 ky']] w fun e w' => e = .returned (.bool (decide ((⟨k, co, pe, tg, va, sz, ro, op, rq, cl, ky⟩ : Cl) = ⟨k', co', pe', tg', va', sz', ro', op', rq', cl', ky'⟩))) ∧ Below w.heap.size w w' := by
  obtain ⟨res, hres⟩ : ∃ r, decide ((⟨k, co, pe, tg, va, sz, ro, op, rq, cl, ky⟩ : Cl) = ⟨k', co', pe', tg', va', sz', ro', op', rq', cl', ky'⟩) = r := ⟨_, rfl⟩
  rw [hres]
  have RES : Hid (res = true ↔ k = k' ∧ co = co' ∧ pe = pe' ∧ tg = tg' ∧ va = va' ∧ sz = sz' ∧ ro = ro' ∧ op = op' ∧ rq = rq' ∧ cl = cl' ∧ ky = ky') := hide (by rw [← hres, decide_eq_true_iff, Cl.mk.injEq])
  have b2 := ((Below.refl w.heap.size w).alloc (Nat.le_refl _) (.cells #[.int .u8 k, .int .i64 co, .int .i64 pe, .int .i64 tg, .int .i64 va, .int .i64 sz, .int .i64 ro, .int .u8 op, .slice ra rq.length rc, .int .i64 cl, .int .i64 ky] 24)).alloc (by simp) (.cells #[.int .u8 k', .int .i64 co', .int .i64 pe', .int .i64 tg', .int .i64 va', .int .i64 sz', .int .i64 ro', .int .u8 op', .slice rb rq'.length rd, .int .i64 cl', .int .i64 ky'] 24)
  have EQL := hide (fun (w1 : World) (h : Below w.heap.size w w1) => Equal_a ra rb rc rd rq rq' w1 (ha.below h) (hb.below h) hla hlb)
  have k1 := Blk.new w 24 #[.int .u8 k, .int .i64 co, .int .i64 pe, .int .i64 tg, .int .i64 va, .int .i64 sz, .int .i64 ro, .int .u8 op, .slice ra rq.length rc, .int .i64 cl, .int .i64 ky]
  have K1 := hide (k1.below ((Below.refl _ _).alloc (Nat.le_refl _) (.cells #[.int .u8 k', .int .i64 co', .int .i64 pe', .int .i64 tg', .int .i64 va', .int .i64 sz', .int .i64 ro', .int .u8 op', .slice rb rq'.length rd, .int .i64 cl', .int .i64 ky'] 24)) k1.lt)
  have k2 := Blk.new (w.alloc (.cells #[.int .u8 k, .int .i64 co, .int .i64 pe, .int .i64 tg, .int .i64 va, .int .i64 sz, .int .i64 ro, .int .u8 op, .slice ra rq.length rc, .int .i64 cl, .int .i64 ky] 24)) 24 #[.int .u8 k', .int .i64 co', .int .i64 pe', .int .i64 tg', .int .i64 va', .int .i64 sz', .int .i64 ro', .int .u8 op', .slice rb rq'.length rd, .int .i64 cl', .int .i64 ky']
  rw [show (w.alloc (.cells #[.int .u8 k, .int .i64 co, .int .i64 pe, .int .i64 tg, .int .i64 va, .int .i64 sz, .int .i64 ro, .int .u8 op, .slice ra rq.length rc, .int .i64 cl, .int .i64 ky] 24)).heap.size = w.heap.size + 1 by simp] at k2
  have K2 := hide k2
  have HB := hide b2
  clear hres ha hb b2 k1 k2
  by_cases hk : k = k'
  rotate_left
  · have R : res = false := Bool.eq_false_iff.2 fun e => hk (by have h := RES.out.1 e; obtain ⟨qk, qco, qpe, qtg, qva, qsz, qro, qop, qrq, qcl, qky⟩ := h; exact qk)
    subst R
    have e1 : (k == k') = false := by simpa using hk
    have HX := hide hk
    clear hk
    go_enter Tryd.func16, Tryd.ntmps16
    go_wp2_with fail
    go_ret
    exact ⟨rfl, HB.out⟩
  have tk : (k == k') = true := by simpa using hk
  have Gk := hide hk
  clear hk
  by_cases hco : co = co'
  rotate_left
  · have R : res = false := Bool.eq_false_iff.2 fun e => hco (by have h := RES.out.1 e; obtain ⟨qk, qco, qpe, qtg, qva, qsz, qro, qop, qrq, qcl, qky⟩ := h; exact qco)
    subst R
    have e1 : (co == co') = false := by simpa using hco
    have HX := hide hco
    clear hco
    go_enter Tryd.func16, Tryd.ntmps16
    go_wp2_with fail
    go_ret
    exact ⟨rfl, HB.out⟩
  have tco : (co == co') = true := by simpa using hco
  have Gco := hide hco
  clear hco
  by_cases hpe : pe = pe'
  rotate_left
  · have R : res = false := Bool.eq_false_iff.2 fun e => hpe (by have h := RES.out.1 e; obtain ⟨qk, qco, qpe, qtg, qva, qsz, qro, qop, qrq, qcl, qky⟩ := h; exact qpe)
    subst R
    have e1 : (pe == pe') = false := by simpa using hpe
    have HX := hide hpe
    clear hpe
    go_enter Tryd.func16, Tryd.ntmps16
    go_wp2_with fail
    go_ret
    exact ⟨rfl, HB.out⟩
  have tpe : (pe == pe') = true := by simpa using hpe
  have Gpe := hide hpe
  clear hpe
  by_cases htg : tg = tg'
  rotate_left
  · have R : res = false := Bool.eq_false_iff.2 fun e => htg (by have h := RES.out.1 e; obtain ⟨qk, qco, qpe, qtg, qva, qsz, qro, qop, qrq, qcl, qky⟩ := h; exact qtg)
    subst R
    have e1 : (tg == tg') = false := by simpa using htg
    have HX := hide htg
    clear htg
    go_enter Tryd.func16, Tryd.ntmps16
    go_wp2_with fail
    go_ret
    exact ⟨rfl, HB.out⟩
  have ttg : (tg == tg') = true := by simpa using htg
  have Gtg := hide htg
  clear htg
  by_cases hva : va = va'
  rotate_left
  · have R : res = false := Bool.eq_false_iff.2 fun e => hva (by have h := RES.out.1 e; obtain ⟨qk, qco, qpe, qtg, qva, qsz, qro, qop, qrq, qcl, qky⟩ := h; exact qva)
    subst R
    have e1 : (va == va') = false := by simpa using hva
    have HX := hide hva
    clear hva
    go_enter Tryd.func16, Tryd.ntmps16
    go_wp2_with fail
    go_ret
    exact ⟨rfl, HB.out⟩
  have tva : (va == va') = true := by simpa using hva
  have Gva := hide hva
  clear hva
  by_cases hsz : sz = sz'
  rotate_left
  · have R : res = false := Bool.eq_false_iff.2 fun e => hsz (by have h := RES.out.1 e; obtain ⟨qk, qco, qpe, qtg, qva, qsz, qro, qop, qrq, qcl, qky⟩ := h; exact qsz)
    subst R
    have e1 : (sz == sz') = false := by simpa using hsz
    have HX := hide hsz
    clear hsz
    go_enter Tryd.func16, Tryd.ntmps16
    go_wp2_with fail
    go_ret
    exact ⟨rfl, HB.out⟩
  have tsz : (sz == sz') = true := by simpa using hsz
  have Gsz := hide hsz
  clear hsz
  by_cases hro : ro = ro'
  rotate_left
  · have R : res = false := Bool.eq_false_iff.2 fun e => hro (by have h := RES.out.1 e; obtain ⟨qk, qco, qpe, qtg, qva, qsz, qro, qop, qrq, qcl, qky⟩ := h; exact qro)
    subst R
    have e1 : (ro == ro') = false := by simpa using hro
    have HX := hide hro
    clear hro
    go_enter Tryd.func16, Tryd.ntmps16
    go_wp2_with fail
    go_ret
    exact ⟨rfl, HB.out⟩
  have tro : (ro == ro') = true := by simpa using hro
  have Gro := hide hro
  clear hro
  by_cases hop : op = op'
  rotate_left
  · have R : res = false := Bool.eq_false_iff.2 fun e => hop (by have h := RES.out.1 e; obtain ⟨qk, qco, qpe, qtg, qva, qsz, qro, qop, qrq, qcl, qky⟩ := h; exact qop)
    subst R
    have e1 : (op == op') = false := by simpa using hop
    have HX := hide hop
    clear hop
    go_enter Tryd.func16, Tryd.ntmps16
    go_wp2_with fail
    go_ret
    exact ⟨rfl, HB.out⟩
  have top : (op == op') = true := by simpa using hop
  have Gop := hide hop
  clear hop
  by_cases hrq : rq = rq'
  rotate_left
  · have R : res = false := Bool.eq_false_iff.2 fun e => hrq (by have h := RES.out.1 e; obtain ⟨qk, qco, qpe, qtg, qva, qsz, qro, qop, qrq, qcl, qky⟩ := h; exact qrq)
    subst R
    have EF : decide (rq = rq') = false := decide_eq_false hrq
    have HX := hide hrq
    clear hrq
    go_enter Tryd.func16, Tryd.ntmps16
    go_wp2_with fail
    refine (EQL.out _ HB.out).mono ?_
    rintro e w9 ⟨rfl, hb9⟩
    have HF := hide (HB.out.trans (hb9.mono HB.out.size))
    have q1 := (K1.out.below hb9 K1.out.lt).cell 9
    have q2 := (K1.out.below hb9 K1.out.lt).cell 10
    have q3 := (K2.out.below hb9 K2.out.lt).cell 9
    have q4 := (K2.out.below hb9 K2.out.lt).cell 10
    clear hb9
    rw [EF]
    go_wp2_with fail
    go_ret
    exact ⟨rfl, HF.out⟩
  have ET : decide (rq = rq') = true := decide_eq_true hrq
  have Grq := hide hrq
  clear hrq
  by_cases hcl : cl = cl'
  rotate_left
  · have R : res = false := Bool.eq_false_iff.2 fun e => hcl (by have h := RES.out.1 e; obtain ⟨qk, qco, qpe, qtg, qva, qsz, qro, qop, qrq, qcl, qky⟩ := h; exact qcl)
    subst R
    have e1 : (cl == cl') = false := by simpa using hcl
    have HX := hide hcl
    clear hcl
    go_enter Tryd.func16, Tryd.ntmps16
    go_wp2_with fail
    refine (EQL.out _ HB.out).mono ?_
    rintro e w9 ⟨rfl, hb9⟩
    have HF := hide (HB.out.trans (hb9.mono HB.out.size))
    have q1 := (K1.out.below hb9 K1.out.lt).cell 9
    have q2 := (K1.out.below hb9 K1.out.lt).cell 10
    have q3 := (K2.out.below hb9 K2.out.lt).cell 9
    have q4 := (K2.out.below hb9 K2.out.lt).cell 10
    clear hb9
    rw [ET]
    go_wp2_with fail
    go_ret
    exact ⟨rfl, HF.out⟩
  have tcl : (cl == cl') = true := by simpa using hcl
  have Gcl := hide hcl
  clear hcl
  by_cases hky : ky = ky'
  rotate_left
  · have R : res = false := Bool.eq_false_iff.2 fun e => hky (by have h := RES.out.1 e; obtain ⟨qk, qco, qpe, qtg, qva, qsz, qro, qop, qrq, qcl, qky⟩ := h; exact qky)
    subst R
    have e1 : (ky == ky') = false := by simpa using hky
    have HX := hide hky
    clear hky
    go_enter Tryd.func16, Tryd.ntmps16
    go_wp2_with fail
    refine (EQL.out _ HB.out).mono ?_
    rintro e w9 ⟨rfl, hb9⟩
    have HF := hide (HB.out.trans (hb9.mono HB.out.size))
    have q1 := (K1.out.below hb9 K1.out.lt).cell 9
    have q2 := (K1.out.below hb9 K1.out.lt).cell 10
    have q3 := (K2.out.below hb9 K2.out.lt).cell 9
    have q4 := (K2.out.below hb9 K2.out.lt).cell 10
    clear hb9
    rw [ET]
    go_wp2_with fail
    go_ret
    exact ⟨rfl, HF.out⟩
  have tky : (ky == ky') = true := by simpa using hky
  have Gky := hide hky
  clear hky
  have R : res = true := RES.out.2 ⟨Gk.out, Gco.out, Gpe.out, Gtg.out, Gva.out, Gsz.out, Gro.out, Gop.out, Grq.out, Gcl.out, Gky.out⟩
  subst R
  go_enter Tryd.func16, Tryd.ntmps16
  go_wp2_with fail
  refine (EQL.out _ HB.out).mono ?_
  rintro e w9 ⟨rfl, hb9⟩
  have HF := hide (HB.out.trans (hb9.mono HB.out.size))
  have q1 := (K1.out.below hb9 K1.out.lt).cell 9
  have q2 := (K1.out.below hb9 K1.out.lt).cell 10
  have q3 := (K2.out.below hb9 K2.out.lt).cell 9
  have q4 := (K2.out.below hb9 K2.out.lt).cell 10
  clear hb9
  rw [ET]
  go_wp2_with fail
  go_ret
  exact ⟨rfl, HF.out⟩
theorem Same_a (a b : Cl) (ra rb : Option Addr) (rc rd : Nat) (w : World) (ha : NRow w ra a.rq) (hb : NRow w rb b.rq) (hla : a.rq.length ≤ 100000) (hlb : b.rq.length ≤ 100000) :
    Calls Tryd.prog 16 #[.agg (a.A ra rc), .agg (b.A rb rd)] w fun e w' => e = .returned (.bool (decide (a = b))) ∧ Below w.heap.size w w' := by
  obtain ⟨k, co, pe, tg, va, sz, ro, op, rq, cl, ky⟩ := a
  obtain ⟨k', co', pe', tg', va', sz', ro', op', rq', cl', ky'⟩ := b
  exact Same_0 k co pe tg va sz ro op cl ky k' co' pe' tg' va' sz' ro' op' cl' ky' rq rq' ra rb rc rd w ha hb hla hlb
end Cal
end Go.Proofs.YthcoelkpiflfeaaDoor
