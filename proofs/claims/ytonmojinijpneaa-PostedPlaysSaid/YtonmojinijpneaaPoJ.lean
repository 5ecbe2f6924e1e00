/- Which message fits a receive; which receive waits. -/
import Derived.Test.YtonmojinijpneaaRows
import Derived.Test.YtonmojinijpneaaPoH
namespace Go.Proofs.Ytonmojinijpneaa
open Go Go.Joins Go.ChangeShapes Go.WideShapes Go.RowKit Go.Deep Go.Lib
set_option linter.unusedVariables false
set_option linter.unusedSimpArgs false
namespace Po
def fitsP (r : Rc) (m : Qu.Msg) : Prop := r.key = m.key ∧ r.rk = m.to ∧ (r.pe = -1 ∨ r.pe = m.fr) ∧ (r.tg = -1 ∨ r.tg = m.tg)
instance (r : Rc) (m : Qu.Msg) : Decidable (fitsP r m) := by unfold fitsP; exact inferInstance
def fitsB (r : Rc) (m : Qu.Msg) : Bool := decide (r.key = m.key ∧ r.rk = m.to ∧ (r.pe = -1 ∨ r.pe = m.fr) ∧ (r.tg = -1 ∨ r.tg = m.tg))
set_option maxRecDepth 100000 in
set_option maxHeartbeats 4000000 in
theorem fits_c (rkey : ByteArray) (rk rca pe tg rq : Int) (dn : Bool) (rfr rsq : Int) (mkey : ByteArray) (mfr mto mca mtg mva msz : Int) (mtk : Bool) (w : World) :
    Calls Try.prog 21 #[.agg #[.string rkey, .int .i64 rk, .int .i64 rca, .int .i64 pe, .int .i64 tg, .int .i64 rq, .bool dn, .int .i64 rfr, .int .i64 rsq], .agg #[.string mkey, .int .i64 mfr, .int .i64 mto, .int .i64 mca, .int .i64 mtg, .int .i64 mva, .int .i64 msz, .bool mtk]] w fun e w' => e = .returned (.bool (fitsB ⟨rkey, rk, rca, pe, tg, rq, dn, rfr, rsq⟩ ⟨mkey, mfr, mto, mca, mtg, mva, msz, mtk⟩)) ∧ Below w.heap.size w w' := by
  have HB := hide (((Below.refl w.heap.size w).alloc (Nat.le_refl _) (.cells #[.string rkey, .int .i64 rk, .int .i64 rca, .int .i64 pe, .int .i64 tg, .int .i64 rq, .bool dn, .int .i64 rfr, .int .i64 rsq] 35)).alloc (by simp) (.cells #[.string mkey, .int .i64 mfr, .int .i64 mto, .int .i64 mca, .int .i64 mtg, .int .i64 mva, .int .i64 msz, .bool mtk] 33))
  by_cases hk : rkey = mkey
  rotate_left
  · have hkb := Qu.str_ne hk
    have FB : fitsB ⟨rkey, rk, rca, pe, tg, rq, dn, rfr, rsq⟩ ⟨mkey, mfr, mto, mca, mtg, mva, msz, mtk⟩ = false := decide_eq_false (by
      intro h
      obtain ⟨e1, e2, e3, e4⟩ := h
      simp only at e1 e2 e3 e4
      first | exact absurd e1 hk | exact absurd e2 hr | (rcases e3 with e | e <;> first | exact absurd e hp | exact absurd e hf) | (rcases e4 with e | e <;> first | exact absurd e ht | exact absurd e hg))
    rw [FB]
    go_enter Try.func21, Try.ntmps21
    go_wp2
    go_ret
    exact ⟨rfl, HB.out⟩
  obtain rfl := hk
  have hks := Qu.str_eq rkey
  by_cases hr : rk = mto
  rotate_left
  · have hrb : (rk == mto) = false := by simp [hr]
    have FB : fitsB ⟨rkey, rk, rca, pe, tg, rq, dn, rfr, rsq⟩ ⟨rkey, mfr, mto, mca, mtg, mva, msz, mtk⟩ = false := decide_eq_false (by
      intro h
      obtain ⟨e1, e2, e3, e4⟩ := h
      simp only at e1 e2 e3 e4
      first | exact absurd e1 hk | exact absurd e2 hr | (rcases e3 with e | e <;> first | exact absurd e hp | exact absurd e hf) | (rcases e4 with e | e <;> first | exact absurd e ht | exact absurd e hg))
    rw [FB]
    go_enter Try.func21, Try.ntmps21
    go_wp2
    go_ret
    exact ⟨rfl, HB.out⟩
  obtain rfl := hr
  by_cases hp : pe = -1
  · obtain rfl := hp
    by_cases ht : tg = -1
    · obtain rfl := ht
      have FB : fitsB ⟨rkey, rk, rca, (-1), (-1), rq, dn, rfr, rsq⟩ ⟨rkey, mfr, rk, mca, mtg, mva, msz, mtk⟩ = true := decide_eq_true (by simp)
      rw [FB]
      go_enter Try.func21, Try.ntmps21
      go_wp2
      go_ret
      exact ⟨rfl, HB.out⟩
    have htb : (tg == (-1 : Int)) = false := by simp [ht]
    by_cases hg : tg = mtg
    · obtain rfl := hg
      have FB : fitsB ⟨rkey, rk, rca, (-1), tg, rq, dn, rfr, rsq⟩ ⟨rkey, mfr, rk, mca, tg, mva, msz, mtk⟩ = true := decide_eq_true (by simp)
      rw [FB]
      go_enter Try.func21, Try.ntmps21
      go_wp2
      go_ret
      exact ⟨rfl, HB.out⟩
    have hgb : (tg == mtg) = false := by simp [hg]
    have FB : fitsB ⟨rkey, rk, rca, (-1), tg, rq, dn, rfr, rsq⟩ ⟨rkey, mfr, rk, mca, mtg, mva, msz, mtk⟩ = false := decide_eq_false (by
      intro h
      obtain ⟨e1, e2, e3, e4⟩ := h
      simp only at e1 e2 e3 e4
      first | exact absurd e1 hk | exact absurd e2 hr | (rcases e3 with e | e <;> first | exact absurd e hp | exact absurd e hf) | (rcases e4 with e | e <;> first | exact absurd e ht | exact absurd e hg))
    rw [FB]
    go_enter Try.func21, Try.ntmps21
    go_wp2
    go_ret
    exact ⟨rfl, HB.out⟩
  have hpb : (pe == (-1 : Int)) = false := by simp [hp]
  by_cases hf : pe = mfr
  · obtain rfl := hf
    by_cases ht : tg = -1
    · obtain rfl := ht
      have FB : fitsB ⟨rkey, rk, rca, pe, (-1), rq, dn, rfr, rsq⟩ ⟨rkey, pe, rk, mca, mtg, mva, msz, mtk⟩ = true := decide_eq_true (by simp)
      rw [FB]
      go_enter Try.func21, Try.ntmps21
      go_wp2
      go_ret
      exact ⟨rfl, HB.out⟩
    have htb : (tg == (-1 : Int)) = false := by simp [ht]
    by_cases hg : tg = mtg
    · obtain rfl := hg
      have FB : fitsB ⟨rkey, rk, rca, pe, tg, rq, dn, rfr, rsq⟩ ⟨rkey, pe, rk, mca, tg, mva, msz, mtk⟩ = true := decide_eq_true (by simp)
      rw [FB]
      go_enter Try.func21, Try.ntmps21
      go_wp2
      go_ret
      exact ⟨rfl, HB.out⟩
    have hgb : (tg == mtg) = false := by simp [hg]
    have FB : fitsB ⟨rkey, rk, rca, pe, tg, rq, dn, rfr, rsq⟩ ⟨rkey, pe, rk, mca, mtg, mva, msz, mtk⟩ = false := decide_eq_false (by
      intro h
      obtain ⟨e1, e2, e3, e4⟩ := h
      simp only at e1 e2 e3 e4
      first | exact absurd e1 hk | exact absurd e2 hr | (rcases e3 with e | e <;> first | exact absurd e hp | exact absurd e hf) | (rcases e4 with e | e <;> first | exact absurd e ht | exact absurd e hg))
    rw [FB]
    go_enter Try.func21, Try.ntmps21
    go_wp2
    go_ret
    exact ⟨rfl, HB.out⟩
  have hfb : (pe == mfr) = false := by simp [hf]
  have FB : fitsB ⟨rkey, rk, rca, pe, tg, rq, dn, rfr, rsq⟩ ⟨rkey, mfr, rk, mca, mtg, mva, msz, mtk⟩ = false := decide_eq_false (by
    intro h
    obtain ⟨e1, e2, e3, e4⟩ := h
    simp only at e1 e2 e3 e4
    first | exact absurd e1 hk | exact absurd e2 hr | (rcases e3 with e | e <;> first | exact absurd e hp | exact absurd e hf) | (rcases e4 with e | e <;> first | exact absurd e ht | exact absurd e hg))
  rw [FB]
  go_enter Try.func21, Try.ntmps21
  go_wp2
  go_ret
  exact ⟨rfl, HB.out⟩
set_option maxRecDepth 100000 in
theorem waits_c (rkey : ByteArray) (rk rca pe tg rq : Int) (dn : Bool) (rfr rsq : Int) (w : World) :
    Calls Try.prog 49 #[.agg #[.string rkey, .int .i64 rk, .int .i64 rca, .int .i64 pe, .int .i64 tg, .int .i64 rq, .bool dn, .int .i64 rfr, .int .i64 rsq]] w fun e w' => e = .returned (.bool (!dn)) ∧ Below w.heap.size w w' := by
  have HB := hide ((Below.refl w.heap.size w).alloc (Nat.le_refl _) (.cells #[.string rkey, .int .i64 rk, .int .i64 rca, .int .i64 pe, .int .i64 tg, .int .i64 rq, .bool dn, .int .i64 rfr, .int .i64 rsq] 35))
  go_enter Try.func49, Try.ntmps49
  go_wp2
  go_ret
  exact ⟨rfl, HB.out⟩
end Po
end Go.Proofs.Ytonmojinijpneaa
