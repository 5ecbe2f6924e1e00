/- The call of any kind that may be: the program's, the document's. -/
import Derived.Test.YtoiibphbogpojaaDoorRows
import Derived.Test.YtoiibphbogpojaaDoorVmX
import Derived.Test.YtoiibphbogpojaaDoorVmY
namespace Go.Proofs.YtoiibphbogpojaaDoor
open Go Go.RowKit Go.Lib Go.Proofs.YtoiibphbogpojaaDoor.Cod
set_option linter.unusedVariables false
set_option linter.unusedSimpArgs false
namespace Vm
structure Cl where
  k : Int
  co : Int
  pe : Int
  tg : Int
  va : Int
  sz : Int
  ro : Int
  op : Int
  cl : Int
  ky : Int
  rq : List Int
def Cl.A (C : Cl) (ra : Option Addr) (rc : Nat) : Array Value := clA C.k C.co C.pe C.tg C.va C.sz C.ro C.op ra C.rq.length rc C.cl C.ky
/-- The call that arguments tell. -/
def clOf (k op : Int) (l : List Int) : Cl :=
  if k = 1 ∨ k = 2 ∨ k = 3 ∨ k = 4 ∨ k = 5 then ⟨k, l.getD 0 0, l.getD 1 0, l.getD 2 0, l.getD 3 0, l.getD 4 0, 0, op, 0, 0, []⟩
  else if k = 6 ∨ k = 7 ∨ k = 13 ∨ k = 14 then ⟨k, l.getD 0 0, l.getD 1 0, l.getD 2 0, 0, 0, 0, op, 0, 0, []⟩
  else if k = 16 ∨ k = 19 ∨ k = 17 then ⟨k, l.getD 0 0, 0, 0, l.getD 2 0, 0, l.getD 1 0, op, 0, 0, []⟩
  else if k = 18 then ⟨k, l.getD 0 0, 0, 0, l.getD 1 0, 0, 0, op, 0, 0, []⟩
  else if k = 21 then ⟨k, l.getD 0 0, 0, 0, 0, 0, 0, op, l.getD 1 0, l.getD 2 0, []⟩
  else if k = 15 ∨ k = 20 ∨ k = 22 then ⟨k, l.getD 0 0, 0, 0, 0, 0, 0, op, 0, 0, []⟩
  else ⟨k, 0, 0, 0, 0, 0, 0, op, 0, 0, l⟩
/-- May a call of a kind have so many arguments? -/
def CMay (k : Int) (m : Nat) : Prop :=
  ((k = 1 ∨ k = 2 ∨ k = 3 ∨ k = 4 ∨ k = 5) ∧ m = 5) ∨ ((k = 6 ∨ k = 7 ∨ k = 13 ∨ k = 14) ∧ m = 3) ∨ ((k = 16 ∨ k = 19 ∨ k = 17) ∧ m = 3) ∨ (k = 18 ∧ m = 2) ∨ (k = 21 ∧ m = 3) ∨ ((k = 15 ∨ k = 20 ∨ k = 22) ∧ m = 1) ∨ ((k = 8 ∨ k = 9 ∨ k = 10 ∨ k = 11 ∨ k = 12) ∧ 1 ≤ m ∧ m ≤ 8)
theorem may_of {n k : Int} {m : Nat} {p : Int} (hn : n = k + 32 * m + 1024 * p) (h0 : 0 ≤ k) (h1 : k ≤ 31) (hm : m ≤ 8) (hp : 0 ≤ p) (hp2 : p ≤ 2) (h : mayCl n = true) : CMay k m := by
  have e1 : n % 32 = k := by omega
  have e2 : n % 1024 / 32 = (m : Int) := by omega
  unfold mayCl at h
  rw [e1, e2] at h
  simp only [Bool.and_eq_true, Bool.not_eq_true', decide_eq_true_eq, decide_eq_false_iff_not] at h
  obtain ⟨⟨_, ⟨h3, h4⟩, h5⟩, _⟩ := h
  have hc : k = 0 ∨ k = 1 ∨ k = 2 ∨ k = 3 ∨ k = 4 ∨ k = 5 ∨ k = 6 ∨ k = 7 ∨ k = 8 ∨ k = 9 ∨ k = 10 ∨ k = 11 ∨ k = 12 ∨ k = 13 ∨ k = 14 ∨ k = 15 ∨ k = 16 ∨ k = 17 ∨ k = 18 ∨ k = 19 ∨ k = 20 ∨ k = 21 ∨ k = 22 ∨ 23 ≤ k := by omega
  unfold CMay
  clear hn e1 e2
  rcases hc with rfl | rfl | rfl | rfl | rfl | rfl | rfl | rfl | rfl | rfl | rfl | rfl | rfl | rfl | rfl | rfl | rfl | rfl | rfl | rfl | rfl | rfl | rfl | hc
  case inr.inr.inr.inr.inr.inr.inr.inr.inr.inr.inr.inr.inr.inr.inr.inr.inr.inr.inr.inr.inr.inr.inr =>
    have e : argsK k = (0, 0) := by
      unfold argsK
      rw [if_neg (by omega), if_neg (by omega), if_neg (by omega), if_neg (by omega), if_neg (by omega)]
    rw [e] at h3
    exact absurd rfl h3
  all_goals simp [argsK] at h3 h4 h5 <;> omega
theorem add_z (ad : Addr) : ad.add 0 = ad := by unfold Addr.add; simp
theorem add_s (ad : Addr) (j : Nat) : ad.add (j + 1) = ⟨ad.block, ad.off + (j + 1), none⟩ := by unfold Addr.add; simp
theorem rq_no {w : World} {B : Nat} : RqAt w B none 0 [] := .inl ⟨rfl, rfl, rfl⟩
/-- What a call tells. -/
def ClPost (w : World) (k op : Int) (l : List Int) (e : Ending) (w' : World) : Prop := ∃ ra rc, e = .returned (.agg ((clOf k op l).A ra rc)) ∧ RqAt w' w.heap.size ra rc (clOf k op l).rq ∧ Below w.heap.size w w'
theorem call_c (k op : Int) (l : List Int) (h : CMay k l.length) (ad : Addr) (cc : Nat) (w : World) (hr : IRow w ad l) :
    Calls Tryd.prog 45 #[.int .u8 k, .int .u8 op, .slice (some ad) l.length cc] w fun e w' => ClPost w k op l e w' := by
  have hc : ∀ j, j < l.length → w.cell? (ad.add j) = some (.int .i64 (l.getD j 0)) := hr.2
  have hb := hr.1
  rcases h with ⟨hk, hm⟩ | ⟨hk, hm⟩ | ⟨hk, hm⟩ | ⟨hk, hm⟩ | ⟨hk, hm⟩ | ⟨hk, hm⟩ | ⟨hk, hm, hm8⟩
  · have h0 := hc 0 (by omega)
    rw [add_z] at h0
    have h1 := hc 1 (by omega)
    rw [add_s] at h1
    have h2 := hc 2 (by omega)
    rw [add_s] at h2
    have h3 := hc 3 (by omega)
    rw [add_s] at h3
    have h4 := hc 4 (by omega)
    rw [add_s] at h4
    refine (call_send k op _ _ _ _ _ hk ad l.length cc w (by omega) hb h0 h1 h2 h3 h4).mono ?_
    rintro e w' ⟨rfl, hb'⟩
    refine ⟨none, 0, ?_, ?_, hb'⟩
    · rcases hk with rfl | rfl | rfl | rfl | rfl <;> rfl
    · rcases hk with rfl | rfl | rfl | rfl | rfl <;> exact rq_no
  · have h0 := hc 0 (by omega)
    rw [add_z] at h0
    have h1 := hc 1 (by omega)
    rw [add_s] at h1
    have h2 := hc 2 (by omega)
    rw [add_s] at h2
    refine (call_recv k op _ _ _ hk ad l.length cc w (by omega) hb h0 h1 h2).mono ?_
    rintro e w' ⟨rfl, hb'⟩
    refine ⟨none, 0, ?_, ?_, hb'⟩
    · rcases hk with rfl | rfl | rfl | rfl <;> rfl
    · rcases hk with rfl | rfl | rfl | rfl <;> exact rq_no
  · have h0 := hc 0 (by omega)
    rw [add_z] at h0
    have h1 := hc 1 (by omega)
    rw [add_s] at h1
    have h2 := hc 2 (by omega)
    rw [add_s] at h2
    refine (call_root k op _ _ _ hk ad l.length cc w (by omega) hb h0 h1 h2).mono ?_
    rintro e w' ⟨rfl, hb'⟩
    refine ⟨none, 0, ?_, ?_, hb'⟩
    · rcases hk with rfl | rfl | rfl <;> rfl
    · rcases hk with rfl | rfl | rfl <;> exact rq_no
  · have h0 := hc 0 (by omega)
    rw [add_z] at h0
    have h1 := hc 1 (by omega)
    rw [add_s] at h1
    refine (call_all k op _ _ hk ad l.length cc w (by omega) hb h0 h1).mono ?_
    rintro e w' ⟨rfl, hb'⟩
    refine ⟨none, 0, ?_, ?_, hb'⟩
    · subst hk <;> rfl
    · subst hk <;> exact rq_no
  · have h0 := hc 0 (by omega)
    rw [add_z] at h0
    have h1 := hc 1 (by omega)
    rw [add_s] at h1
    have h2 := hc 2 (by omega)
    rw [add_s] at h2
    refine (call_split k op _ _ _ hk ad l.length cc w (by omega) hb h0 h1 h2).mono ?_
    rintro e w' ⟨rfl, hb'⟩
    refine ⟨none, 0, ?_, ?_, hb'⟩
    · subst hk <;> rfl
    · subst hk <;> exact rq_no
  · have h0 := hc 0 (by omega)
    rw [add_z] at h0
    refine (call_comm k op _ hk ad l.length cc w (by omega) hb h0).mono ?_
    rintro e w' ⟨rfl, hb'⟩
    refine ⟨none, 0, ?_, ?_, hb'⟩
    · rcases hk with rfl | rfl | rfl <;> rfl
    · rcases hk with rfl | rfl | rfl <;> exact rq_no
  · refine (call_reqs k op hk l ad cc w (by omega) (by omega) hr).mono ?_
    rintro e w' ⟨ra, rc, rfl, hq, hb'⟩
    refine ⟨ra, rc, ?_, ?_, hb'⟩
    · rcases hk with rfl | rfl | rfl | rfl | rfl <;> rfl
    · rcases hk with rfl | rfl | rfl | rfl | rfl <;> exact hq
theorem callD_c (k op : Int) (l : List Int) (h : CMay k l.length) (ad : Addr) (cc : Nat) (w : World) (hr : IRow w ad l) :
    Calls Tryd.prog 10 #[.int .u8 k, .int .u8 op, .slice (some ad) l.length cc] w fun e w' => ClPost w k op l e w' := by
  have hc : ∀ j, j < l.length → w.cell? (ad.add j) = some (.int .i64 (l.getD j 0)) := hr.2
  have hb := hr.1
  rcases h with ⟨hk, hm⟩ | ⟨hk, hm⟩ | ⟨hk, hm⟩ | ⟨hk, hm⟩ | ⟨hk, hm⟩ | ⟨hk, hm⟩ | ⟨hk, hm, hm8⟩
  · have h0 := hc 0 (by omega)
    rw [add_z] at h0
    have h1 := hc 1 (by omega)
    rw [add_s] at h1
    have h2 := hc 2 (by omega)
    rw [add_s] at h2
    have h3 := hc 3 (by omega)
    rw [add_s] at h3
    have h4 := hc 4 (by omega)
    rw [add_s] at h4
    refine (callD_send k op _ _ _ _ _ hk ad l.length cc w (by omega) hb h0 h1 h2 h3 h4).mono ?_
    rintro e w' ⟨rfl, hb'⟩
    refine ⟨none, 0, ?_, ?_, hb'⟩
    · rcases hk with rfl | rfl | rfl | rfl | rfl <;> rfl
    · rcases hk with rfl | rfl | rfl | rfl | rfl <;> exact rq_no
  · have h0 := hc 0 (by omega)
    rw [add_z] at h0
    have h1 := hc 1 (by omega)
    rw [add_s] at h1
    have h2 := hc 2 (by omega)
    rw [add_s] at h2
    refine (callD_recv k op _ _ _ hk ad l.length cc w (by omega) hb h0 h1 h2).mono ?_
    rintro e w' ⟨rfl, hb'⟩
    refine ⟨none, 0, ?_, ?_, hb'⟩
    · rcases hk with rfl | rfl | rfl | rfl <;> rfl
    · rcases hk with rfl | rfl | rfl | rfl <;> exact rq_no
  · have h0 := hc 0 (by omega)
    rw [add_z] at h0
    have h1 := hc 1 (by omega)
    rw [add_s] at h1
    have h2 := hc 2 (by omega)
    rw [add_s] at h2
    refine (callD_root k op _ _ _ hk ad l.length cc w (by omega) hb h0 h1 h2).mono ?_
    rintro e w' ⟨rfl, hb'⟩
    refine ⟨none, 0, ?_, ?_, hb'⟩
    · rcases hk with rfl | rfl | rfl <;> rfl
    · rcases hk with rfl | rfl | rfl <;> exact rq_no
  · have h0 := hc 0 (by omega)
    rw [add_z] at h0
    have h1 := hc 1 (by omega)
    rw [add_s] at h1
    refine (callD_all k op _ _ hk ad l.length cc w (by omega) hb h0 h1).mono ?_
    rintro e w' ⟨rfl, hb'⟩
    refine ⟨none, 0, ?_, ?_, hb'⟩
    · subst hk <;> rfl
    · subst hk <;> exact rq_no
  · have h0 := hc 0 (by omega)
    rw [add_z] at h0
    have h1 := hc 1 (by omega)
    rw [add_s] at h1
    have h2 := hc 2 (by omega)
    rw [add_s] at h2
    refine (callD_split k op _ _ _ hk ad l.length cc w (by omega) hb h0 h1 h2).mono ?_
    rintro e w' ⟨rfl, hb'⟩
    refine ⟨none, 0, ?_, ?_, hb'⟩
    · subst hk <;> rfl
    · subst hk <;> exact rq_no
  · have h0 := hc 0 (by omega)
    rw [add_z] at h0
    refine (callD_comm k op _ hk ad l.length cc w (by omega) hb h0).mono ?_
    rintro e w' ⟨rfl, hb'⟩
    refine ⟨none, 0, ?_, ?_, hb'⟩
    · rcases hk with rfl | rfl | rfl <;> rfl
    · rcases hk with rfl | rfl | rfl <;> exact rq_no
  · rcases hk with rfl | rfl | rfl | rfl | rfl
    · refine (callD_reqs8 op l ad cc w (by omega) (by omega) hr).mono ?_
      rintro e w' ⟨ra, rc, rfl, hq, hb'⟩
      exact ⟨ra, rc, rfl, hq, hb'⟩
    · refine (callD_reqs9 op l ad cc w (by omega) (by omega) hr).mono ?_
      rintro e w' ⟨ra, rc, rfl, hq, hb'⟩
      exact ⟨ra, rc, rfl, hq, hb'⟩
    · refine (callD_reqs10 op l ad cc w (by omega) (by omega) hr).mono ?_
      rintro e w' ⟨ra, rc, rfl, hq, hb'⟩
      exact ⟨ra, rc, rfl, hq, hb'⟩
    · refine (callD_reqs11 op l ad cc w (by omega) (by omega) hr).mono ?_
      rintro e w' ⟨ra, rc, rfl, hq, hb'⟩
      exact ⟨ra, rc, rfl, hq, hb'⟩
    · refine (callD_reqs12 op l ad cc w (by omega) (by omega) hr).mono ?_
      rintro e w' ⟨ra, rc, rfl, hq, hb'⟩
      exact ⟨ra, rc, rfl, hq, hb'⟩
end Vm
end Go.Proofs.YtoiibphbogpojaaDoor
