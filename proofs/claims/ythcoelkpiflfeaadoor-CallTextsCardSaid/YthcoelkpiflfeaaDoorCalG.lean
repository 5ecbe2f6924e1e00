/- Two calls are the same: the document. -/
import Derived.Test.YthcoelkpiflfeaaDoorRows
import Derived.Test.YthcoelkpiflfeaaDoorCalE
import Derived.BigQuiet
namespace Go.Proofs.YthcoelkpiflfeaaDoor
open Go Go.RowKit Go.Lib Go.Proofs.YthcoelkpiflfeaaDoor.Grp
set_option linter.unusedVariables false
set_option linter.unusedSimpArgs false
namespace Cal
set_option maxRecDepth 100000 in
set_option maxHeartbeats 16000000 in
theorem SameB_0 (k co pe tg va sz ro op cl ky k' co' pe' tg' va' sz' ro' op' cl' ky' : Int) (rq rq' : List Int) (ra rb : Option Addr) (rc rd : Nat) (w : World) (ha : NRow w ra rq) (hb : NRow w rb rq') (hla : rq.length ≤ 100000) (hlb : rq'.length ≤ 100000) :
    Calls Tryd.prog 11 #[.agg #[.int .u8 k, .int .i64 co, .int .i64 pe, .int .i64 tg, .int .i64 va, .int .i64 sz, .int .i64 ro, .int .u8 op, .slice ra rq.length rc, .int .i64 cl, .int .i64 ky], .agg #[.int .u8 k', .int .i64 co', .int .i64 pe', .int .i64 tg', .int .i64 va', .int .i64 sz', .int .i64 ro', .int .u8 op', .slice rb rq'.length rd, .int .i64 cl', .int .i64 ky']] w fun e w' => e = .returned (.bool (decide ((⟨k, co, pe, tg, va, sz, ro, op, rq, cl, ky⟩ : Cl) = ⟨k', co', pe', tg', va', sz', ro', op', rq', cl', ky'⟩))) ∧ Below w.heap.size w w' := by
  obtain ⟨res, hres⟩ : ∃ r, decide ((⟨k, co, pe, tg, va, sz, ro, op, rq, cl, ky⟩ : Cl) = ⟨k', co', pe', tg', va', sz', ro', op', rq', cl', ky'⟩) = r := ⟨_, rfl⟩
  rw [hres]
  have RES : Hid (res = true ↔ k = k' ∧ co = co' ∧ pe = pe' ∧ tg = tg' ∧ va = va' ∧ sz = sz' ∧ ro = ro' ∧ op = op' ∧ rq = rq' ∧ cl = cl' ∧ ky = ky') := hide (by rw [← hres, decide_eq_true_iff, Cl.mk.injEq])
  obtain ⟨n, hn⟩ : ∃ n, rq.length = n := ⟨_, rfl⟩
  obtain ⟨n', hn'⟩ : ∃ n, rq'.length = n := ⟨_, rfl⟩
  rw [hn, hn']
  have k1 := Blk.new w 24 #[.int .u8 k, .int .i64 co, .int .i64 pe, .int .i64 tg, .int .i64 va, .int .i64 sz, .int .i64 ro, .int .u8 op, .slice ra n rc, .int .i64 cl, .int .i64 ky]
  have k1b := k1.below ((Below.refl _ _).alloc (Nat.le_refl _) (.cells #[.int .u8 k', .int .i64 co', .int .i64 pe', .int .i64 tg', .int .i64 va', .int .i64 sz', .int .i64 ro', .int .u8 op', .slice rb n' rd, .int .i64 cl', .int .i64 ky'] 24)) k1.lt
  have k2 := Blk.new (w.alloc (.cells #[.int .u8 k, .int .i64 co, .int .i64 pe, .int .i64 tg, .int .i64 va, .int .i64 sz, .int .i64 ro, .int .u8 op, .slice ra n rc, .int .i64 cl, .int .i64 ky] 24)) 24 #[.int .u8 k', .int .i64 co', .int .i64 pe', .int .i64 tg', .int .i64 va', .int .i64 sz', .int .i64 ro', .int .u8 op', .slice rb n' rd, .int .i64 cl', .int .i64 ky']
  rw [show (w.alloc (.cells #[.int .u8 k, .int .i64 co, .int .i64 pe, .int .i64 tg, .int .i64 va, .int .i64 sz, .int .i64 ro, .int .u8 op, .slice ra n rc, .int .i64 cl, .int .i64 ky] 24)).heap.size = w.heap.size + 1 by simp] at k2
  have b2 := ((Below.refl w.heap.size w).alloc (Nat.le_refl _) (.cells #[.int .u8 k, .int .i64 co, .int .i64 pe, .int .i64 tg, .int .i64 va, .int .i64 sz, .int .i64 ro, .int .u8 op, .slice ra n rc, .int .i64 cl, .int .i64 ky] 24)).alloc (by simp) (.cells #[.int .u8 k', .int .i64 co', .int .i64 pe', .int .i64 tg', .int .i64 va', .int .i64 sz', .int .i64 ro', .int .u8 op', .slice rb n' rd, .int .i64 cl', .int .i64 ky'] 24)
  obtain ⟨w2, hw2⟩ : ∃ y, (w.alloc (.cells #[.int .u8 k, .int .i64 co, .int .i64 pe, .int .i64 tg, .int .i64 va, .int .i64 sz, .int .i64 ro, .int .u8 op, .slice ra n rc, .int .i64 cl, .int .i64 ky] 24)).alloc (.cells #[.int .u8 k', .int .i64 co', .int .i64 pe', .int .i64 tg', .int .i64 va', .int .i64 sz', .int .i64 ro', .int .u8 op', .slice rb n' rd, .int .i64 cl', .int .i64 ky'] 24) = y := ⟨_, rfl⟩
  have HB := hide b2
  have HB2 := HB
  rw [hw2] at k1b k2 b2 HB2
  have HK1 := hide k1b
  have HK2 := hide k2
  have HW2 := hide hw2
  have HA := hide (ha.below b2)
  have HC := hide (hb.below b2)
  have HL := hide hla
  have HN := hide hn
  have HN' := hide hn'
  clear hres ha hb b2 k1 k1b k2 hw2 hla hlb
  by_cases hnn : n = n'
  rotate_left
  · have R : res = false := Bool.eq_false_iff.2 fun e => hnn (by have h := RES.out.1 e; obtain ⟨qk, qco, qpe, qtg, qva, qsz, qro, qop, qrq, qcl, qky⟩ := h; rw [← hn, ← hn', qrq])
    subst R
    have h0 : ¬ (n : Int) = (n' : Int) := by omega
    have h1 : ((n : Int) == (n' : Int)) = false := by simpa using h0
    have h2 : ((n : Int) != (n' : Int)) = true := by simpa using h0
    have HH := hide hnn
    clear h0 hnn hn hn'
    go_enter Tryd.func11, Tryd.ntmps11
    go_wp2_with fail
    go_ret
    exact ⟨rfl, HB.out⟩
  subst hnn
  clear hn hn'
  go_enter Tryd.func11, Tryd.ntmps11
  go_wp2_with fail
  rw [HW2.out]
  go_loopw [5] (fun vi wr => ∃ i : Nat, i ≤ n ∧ vi = .int .i64 i ∧ Hid (Below w2.heap.size w2 wr) ∧ Hid (∀ j, j < i → rq.getD j 0 = rq'.getD j 0)) (fun vi _ => n - (RowKit.intOf vi).toNat)
  case atStart => exact ⟨0, Nat.zero_le _, rfl, hide (Below.refl _ _), hide (fun j h => absurd h (Nat.not_lt_zero j))⟩
  case round =>
    obtain ⟨i, hi, rfl, HBW, HE⟩ := hrel
    have HBF := hide (HB2.out.trans (HBW.out.mono HB2.out.size))
    have KA := HK1.out.below HBW.out HK1.out.lt
    have KB := HK2.out.below HBW.out HK2.out.lt
    have x8 : wr.cell? ⟨w.heap.size, 8, none⟩ = some (.slice ra n rc) := KA.cell 8
    have y8 : wr.cell? ⟨w.heap.size + 1, 8, none⟩ = some (.slice rb n rd) := KB.cell 8
    by_cases hlt : i < n
    · have hltI : (i : Int) < (n : Int) := by omega
      have hi0 : ¬ (i : Int) < 0 := by omega
      have hs1 : IntKind.i64.wrap ((i : Int) + 1) = (i : Int) + 1 := by rw [IntKind.wrap_i64]; have := HL.out; have := HN.out; omega
      obtain ⟨p, rfl, hp, hcp⟩ := (HA.out.below HBW.out) (by have := HN.out; omega)
      obtain ⟨q, rfl, hq, hcq⟩ := (HC.out.below HBW.out) (by have := HN'.out; omega)
      have g0 := hcp i (by have := HN.out; omega)
      have g1 := hcq i (by have := HN'.out; omega)
      have HNX : Hid (rq.getD i 0 = rq'.getD i 0 → ∀ j, j < i + 1 → rq.getD j 0 = rq'.getD j 0) := hide (fun h j hj => by
        by_cases hji : j = i
        · subst hji; exact h
        · exact HE.out j (by omega))
      have HNO : Hid (¬ rq.getD i 0 = rq'.getD i 0 → res = false) := hide (fun h => Bool.eq_false_iff.2 fun e => h (by have h := RES.out.1 e; obtain ⟨qk, qco, qpe, qtg, qva, qsz, qro, qop, qrq, qcl, qky⟩ := h; rw [qrq]))
      clear hcp hcq KA KB
      generalize rq.getD i 0 = x at *
      generalize rq'.getD i 0 = y at *
      by_cases hx : x = y
      · have e2 : (x != y) = false := by simp [hx]
        have e1 : (x == y) = true := by simp [hx]
        have HN3 := hide (HNX.out hx)
        have HBD := hide (HBW.out.drew)
        subst hx
        clear HNX HNO
        go_wp2_with fail
        go_region
        go_wp2_with fail
        go_roundw
        case rel => exact ⟨i + 1, by omega, by go_num, HBD, HN3⟩
        case measure => simp [RowKit.intOf] <;> omega
      · have R : res = false := HNO.out hx
        subst R
        have e2 : (x != y) = true := by simpa using hx
        have e1 : (x == y) = false := by simpa using hx
        have HX := hide hx
        have HBD := hide (HBF.out.drew)
        clear HNX HNO hx
        go_wp2_with fail
        go_region
        go_wp2_with fail
        go_ret
        exact ⟨rfl, HBD.out⟩
    have hltI : ¬ (i : Int) < (n : Int) := by omega
    have hrq : rq = rq' := by
      refine List.ext_getElem (by rw [HN.out, HN'.out]) fun j h1 h2 => ?_
      have := HE.out j (by have := HN.out; omega)
      rw [List.getD, List.getD, List.getElem?_eq_getElem h1, List.getElem?_eq_getElem h2] at this
      exact this
    have Grq := hide hrq
    clear hrq
    have x0 : wr.cell? ⟨w.heap.size, 0, none⟩ = some (.int .u8 k) := KA.cell 0
    have y0 : wr.cell? ⟨w.heap.size + 1, 0, none⟩ = some (.int .u8 k') := KB.cell 0
    have x1 : wr.cell? ⟨w.heap.size, 1, none⟩ = some (.int .i64 co) := KA.cell 1
    have y1 : wr.cell? ⟨w.heap.size + 1, 1, none⟩ = some (.int .i64 co') := KB.cell 1
    have x2 : wr.cell? ⟨w.heap.size, 2, none⟩ = some (.int .i64 pe) := KA.cell 2
    have y2 : wr.cell? ⟨w.heap.size + 1, 2, none⟩ = some (.int .i64 pe') := KB.cell 2
    have x3 : wr.cell? ⟨w.heap.size, 3, none⟩ = some (.int .i64 tg) := KA.cell 3
    have y3 : wr.cell? ⟨w.heap.size + 1, 3, none⟩ = some (.int .i64 tg') := KB.cell 3
    have x4 : wr.cell? ⟨w.heap.size, 4, none⟩ = some (.int .i64 va) := KA.cell 4
    have y4 : wr.cell? ⟨w.heap.size + 1, 4, none⟩ = some (.int .i64 va') := KB.cell 4
    have x5 : wr.cell? ⟨w.heap.size, 5, none⟩ = some (.int .i64 sz) := KA.cell 5
    have y5 : wr.cell? ⟨w.heap.size + 1, 5, none⟩ = some (.int .i64 sz') := KB.cell 5
    have x6 : wr.cell? ⟨w.heap.size, 6, none⟩ = some (.int .i64 ro) := KA.cell 6
    have y6 : wr.cell? ⟨w.heap.size + 1, 6, none⟩ = some (.int .i64 ro') := KB.cell 6
    have x7 : wr.cell? ⟨w.heap.size, 7, none⟩ = some (.int .u8 op) := KA.cell 7
    have y7 : wr.cell? ⟨w.heap.size + 1, 7, none⟩ = some (.int .u8 op') := KB.cell 7
    have x9 : wr.cell? ⟨w.heap.size, 9, none⟩ = some (.int .i64 cl) := KA.cell 9
    have y9 : wr.cell? ⟨w.heap.size + 1, 9, none⟩ = some (.int .i64 cl') := KB.cell 9
    have x10 : wr.cell? ⟨w.heap.size, 10, none⟩ = some (.int .i64 ky) := KA.cell 10
    have y10 : wr.cell? ⟨w.heap.size + 1, 10, none⟩ = some (.int .i64 ky') := KB.cell 10
    clear KA KB
    by_cases hk : k = k'
    rotate_left
    · have R : res = false := Bool.eq_false_iff.2 fun e => hk (by have h := RES.out.1 e; obtain ⟨qk, qco, qpe, qtg, qva, qsz, qro, qop, qrq, qcl, qky⟩ := h; exact qk)
      subst R
      have e1 : (k == k') = false := by simpa using hk
      have HX := hide hk
      clear hk
      go_wp2_with fail
      go_ret
      exact ⟨rfl, HBF.out⟩
    have tk : (k == k') = true := by simpa using hk
    have Gk := hide hk
    clear hk
    by_cases hco : co = co'
    rotate_left
    · have R : res = false := Bool.eq_false_iff.2 fun e => hco (by have h := RES.out.1 e; obtain ⟨qk, qco, qpe, qtg, qva, qsz, qro, qop, qrq, qcl, qky⟩ := h; exact qco)
      subst R
      have e1 : (co == co') = false := by simpa using hco
      have HX := hide hco
      clear hco
      go_wp2_with fail
      go_ret
      exact ⟨rfl, HBF.out⟩
    have tco : (co == co') = true := by simpa using hco
    have Gco := hide hco
    clear hco
    by_cases hpe : pe = pe'
    rotate_left
    · have R : res = false := Bool.eq_false_iff.2 fun e => hpe (by have h := RES.out.1 e; obtain ⟨qk, qco, qpe, qtg, qva, qsz, qro, qop, qrq, qcl, qky⟩ := h; exact qpe)
      subst R
      have e1 : (pe == pe') = false := by simpa using hpe
      have HX := hide hpe
      clear hpe
      go_wp2_with fail
      go_ret
      exact ⟨rfl, HBF.out⟩
    have tpe : (pe == pe') = true := by simpa using hpe
    have Gpe := hide hpe
    clear hpe
    by_cases htg : tg = tg'
    rotate_left
    · have R : res = false := Bool.eq_false_iff.2 fun e => htg (by have h := RES.out.1 e; obtain ⟨qk, qco, qpe, qtg, qva, qsz, qro, qop, qrq, qcl, qky⟩ := h; exact qtg)
      subst R
      have e1 : (tg == tg') = false := by simpa using htg
      have HX := hide htg
      clear htg
      go_wp2_with fail
      go_ret
      exact ⟨rfl, HBF.out⟩
    have ttg : (tg == tg') = true := by simpa using htg
    have Gtg := hide htg
    clear htg
    by_cases hva : va = va'
    rotate_left
    · have R : res = false := Bool.eq_false_iff.2 fun e => hva (by have h := RES.out.1 e; obtain ⟨qk, qco, qpe, qtg, qva, qsz, qro, qop, qrq, qcl, qky⟩ := h; exact qva)
      subst R
      have e1 : (va == va') = false := by simpa using hva
      have HX := hide hva
      clear hva
      go_wp2_with fail
      go_ret
      exact ⟨rfl, HBF.out⟩
    have tva : (va == va') = true := by simpa using hva
    have Gva := hide hva
    clear hva
    by_cases hsz : sz = sz'
    rotate_left
    · have R : res = false := Bool.eq_false_iff.2 fun e => hsz (by have h := RES.out.1 e; obtain ⟨qk, qco, qpe, qtg, qva, qsz, qro, qop, qrq, qcl, qky⟩ := h; exact qsz)
      subst R
      have e1 : (sz == sz') = false := by simpa using hsz
      have HX := hide hsz
      clear hsz
      go_wp2_with fail
      go_ret
      exact ⟨rfl, HBF.out⟩
    have tsz : (sz == sz') = true := by simpa using hsz
    have Gsz := hide hsz
    clear hsz
    by_cases hro : ro = ro'
    rotate_left
    · have R : res = false := Bool.eq_false_iff.2 fun e => hro (by have h := RES.out.1 e; obtain ⟨qk, qco, qpe, qtg, qva, qsz, qro, qop, qrq, qcl, qky⟩ := h; exact qro)
      subst R
      have e1 : (ro == ro') = false := by simpa using hro
      have HX := hide hro
      clear hro
      go_wp2_with fail
      go_ret
      exact ⟨rfl, HBF.out⟩
    have tro : (ro == ro') = true := by simpa using hro
    have Gro := hide hro
    clear hro
    by_cases hop : op = op'
    rotate_left
    · have R : res = false := Bool.eq_false_iff.2 fun e => hop (by have h := RES.out.1 e; obtain ⟨qk, qco, qpe, qtg, qva, qsz, qro, qop, qrq, qcl, qky⟩ := h; exact qop)
      subst R
      have e1 : (op == op') = false := by simpa using hop
      have HX := hide hop
      clear hop
      go_wp2_with fail
      go_ret
      exact ⟨rfl, HBF.out⟩
    have top : (op == op') = true := by simpa using hop
    have Gop := hide hop
    clear hop
    by_cases hcl : cl = cl'
    rotate_left
    · have R : res = false := Bool.eq_false_iff.2 fun e => hcl (by have h := RES.out.1 e; obtain ⟨qk, qco, qpe, qtg, qva, qsz, qro, qop, qrq, qcl, qky⟩ := h; exact qcl)
      subst R
      have e1 : (cl == cl') = false := by simpa using hcl
      have HX := hide hcl
      clear hcl
      go_wp2_with fail
      go_ret
      exact ⟨rfl, HBF.out⟩
    have tcl : (cl == cl') = true := by simpa using hcl
    have Gcl := hide hcl
    clear hcl
    by_cases hky : ky = ky'
    rotate_left
    · have R : res = false := Bool.eq_false_iff.2 fun e => hky (by have h := RES.out.1 e; obtain ⟨qk, qco, qpe, qtg, qva, qsz, qro, qop, qrq, qcl, qky⟩ := h; exact qky)
      subst R
      have e1 : (ky == ky') = false := by simpa using hky
      have HX := hide hky
      clear hky
      go_wp2_with fail
      go_ret
      exact ⟨rfl, HBF.out⟩
    have tky : (ky == ky') = true := by simpa using hky
    have Gky := hide hky
    clear hky
    have R : res = true := RES.out.2 ⟨Gk.out, Gco.out, Gpe.out, Gtg.out, Gva.out, Gsz.out, Gro.out, Gop.out, Grq.out, Gcl.out, Gky.out⟩
    subst R
    go_wp2_with fail
    go_ret
    exact ⟨rfl, HBF.out⟩
theorem Same_b (a b : Cl) (ra rb : Option Addr) (rc rd : Nat) (w : World) (ha : NRow w ra a.rq) (hb : NRow w rb b.rq) (hla : a.rq.length ≤ 100000) (hlb : b.rq.length ≤ 100000) :
    Calls Tryd.prog 11 #[.agg (a.A ra rc), .agg (b.A rb rd)] w fun e w' => e = .returned (.bool (decide (a = b))) ∧ Below w.heap.size w w' := by
  obtain ⟨k, co, pe, tg, va, sz, ro, op, rq, cl, ky⟩ := a
  obtain ⟨k', co', pe', tg', va', sz', ro', op', rq', cl', ky'⟩ := b
  exact SameB_0 k co pe tg va sz ro op cl ky k' co' pe' tg' va' sz' ro' op' cl' ky' rq rq' ra rb rc rd w ha hb hla hlb
end Cal
end Go.Proofs.YthcoelkpiflfeaaDoor
