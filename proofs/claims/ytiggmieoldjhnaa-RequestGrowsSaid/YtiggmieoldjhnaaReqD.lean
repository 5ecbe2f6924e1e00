/- Requests that are completed: the program's Complete. -/
import Derived.Test.YtiggmieoldjhnaaRows
import Derived.Test.YtiggmieoldjhnaaReqC
namespace Go.Proofs.Ytiggmieoldjhnaa
open Go Go.RowKit Go.Proofs.Ytiggmieoldjhnaa.Grp
set_option linter.unusedVariables false
set_option linter.unusedSimpArgs false
namespace Req
def Rq.full (x : Rq) (v p t : Int) : Rq := ⟨x.recv, true, x.gone, v, p, t⟩
def Rq.taken (x : Rq) : Rq := ⟨x.recv, x.done, true, x.v, x.p, x.t⟩
theorem rqCs_full (v p t : Int) : ∀ (l : List Rq) (i : Nat) (hi : i < l.length), ((((rqCs l).set (i * 6 + 1) (.bool true)).set (i * 6 + 3) (.int .i64 v)).set (i * 6 + 4) (.int .i64 p)).set (i * 6 + 5) (.int .i64 t) = rqCs (l.set i ((l[i]'hi).full v p t))
  | x :: l, 0, _ => rfl
  | x :: l, i + 1, hi => by
    have ih := rqCs_full v p t l i (by simpa using hi)
    have e : ∀ l' : List Rq, rqCs (x :: l') = .bool x.recv :: .bool x.done :: .bool x.gone :: .int .i64 x.v :: .int .i64 x.p :: .int .i64 x.t :: rqCs l' := fun _ => rfl
    rw [List.set_cons_succ, e, e]
    simp only [List.getElem_cons_succ]
    rw [← ih]
    simp only [show (i + 1) * 6 + 1 = i * 6 + 1 + 1 + 1 + 1 + 1 + 1 + 1 by omega, show (i + 1) * 6 + 3 = i * 6 + 3 + 1 + 1 + 1 + 1 + 1 + 1 by omega, show (i + 1) * 6 + 4 = i * 6 + 4 + 1 + 1 + 1 + 1 + 1 + 1 by omega, show (i + 1) * 6 + 5 = i * 6 + 5 + 1 + 1 + 1 + 1 + 1 + 1 by omega, List.set_cons_succ]
theorem rqCs_taken : ∀ (l : List Rq) (i : Nat) (hi : i < l.length), (rqCs l).set (i * 6 + 2) (.bool true) = rqCs (l.set i (l[i]'hi).taken)
  | x :: l, 0, _ => rfl
  | x :: l, i + 1, hi => by
    have ih := rqCs_taken l i (by simpa using hi)
    have e : ∀ l' : List Rq, rqCs (x :: l') = .bool x.recv :: .bool x.done :: .bool x.gone :: .int .i64 x.v :: .int .i64 x.p :: .int .i64 x.t :: rqCs l' := fun _ => rfl
    rw [List.set_cons_succ, e, e]
    simp only [List.getElem_cons_succ]
    rw [← ih]
    simp only [show (i + 1) * 6 + 2 = i * 6 + 2 + 1 + 1 + 1 + 1 + 1 + 1 by omega, List.set_cons_succ]
def compE (rs : List Rq) (i : Int) : Int := if here rs i then (if (rs.getD i.toNat default).done then 2 else 0) else 120
theorem pick_rq {rs : List Rq} {y : Nat} (hy : y < rs.length) : rs.getD y default = rs[y] := by rw [List.getD_eq_getElem?_getD, List.getElem?_eq_getElem hy]; rfl
set_option maxRecDepth 100000 in
set_option maxHeartbeats 4000000 in
theorem Complete_no (T B : Nat) (rs : List Rq) (i v p t : Int) (w : World) (h : PR w T B rs) (hn : ¬ here rs i) :
    Calls Try.prog 18 #[.pointer (some ⟨T, 0, none⟩), .int .i64 i, .int .i64 v, .int .i64 p, .int .i64 t] w fun e w' => e = .returned (.int .i64 120) ∧ w = w' := by
  obtain ⟨h0, hrl, O, oc, hb, ho⟩ := id h
  have c0 : w.cell? ⟨T, 0, none⟩ = some (.bool true) := hb.cell 0
  have c1 : w.cell? ⟨T, 1, none⟩ = some (.slice O rs.length oc) := hb.cell 1
  have MC := hide (made_c T w c0)
  by_cases hth : 0 ≤ i ∧ i < rs.length
  rotate_left
  · have TX := hide (there_no T B rs i w h hth)
    clear hb ho h hth hn
    go_enter Try.func18, Try.ntmps18
    go_wp2_with fail
    refine MC.out.mono ?_
    rintro e w' ⟨rfl, rfl⟩
    go_wp2_with fail
    refine TX.out.mono ?_
    rintro e w' ⟨rfl, rfl⟩
    go_wp2_with fail
    go_ret
    exact ⟨rfl, rfl⟩
  obtain ⟨y, rfl⟩ : ∃ y : Nat, i = (y : Int) := ⟨i.toNat, by omega⟩
  have hy : y < rs.length := by omega
  have hyI : (y : Int) < (rs.length : Int) := by omega
  have TX := hide (there_yes T B rs y w h hy)
  obtain ⟨o, rfl, _, _, _, _, _, hOc⟩ := own_cell ho (by omega)
  have hgc := hOc (y * 6 + 2) _ (rqCs_at rs y hy 2 (by omega))
  have hg : rs[y].gone = true := by
    cases hgn : rs[y].gone with
    | true => rfl
    | false => exact absurd ⟨by omega, hyI, by rw [Int.toNat_natCast, pick_rq hy, hgn]⟩ hn
  rw [hg] at hgc
  clear hb ho h hth hn hOc hg
  go_enter Try.func18, Try.ntmps18
  go_wp2_with fail
  refine MC.out.mono ?_
  rintro e w' ⟨rfl, rfl⟩
  go_wp2_with fail
  refine TX.out.mono ?_
  rintro e w' ⟨rfl, rfl⟩
  go_wp2_with fail
  go_ret
  exact ⟨rfl, rfl⟩
set_option maxRecDepth 100000 in
set_option maxHeartbeats 4000000 in
theorem Complete_done (T B : Nat) (rs : List Rq) (y : Nat) (v p t : Int) (w : World) (h : PR w T B rs) (hy : y < rs.length) (hg : rs[y].gone = false) (hd : rs[y].done = true) :
    Calls Try.prog 18 #[.pointer (some ⟨T, 0, none⟩), .int .i64 y, .int .i64 v, .int .i64 p, .int .i64 t] w fun e w' => e = .returned (.int .i64 2) ∧ w = w' := by
  obtain ⟨h0, hrl, O, oc, hb, ho⟩ := id h
  have c0 : w.cell? ⟨T, 0, none⟩ = some (.bool true) := hb.cell 0
  have c1 : w.cell? ⟨T, 1, none⟩ = some (.slice O rs.length oc) := hb.cell 1
  have MC := hide (made_c T w c0)
  have hyI : (y : Int) < (rs.length : Int) := by omega
  have TX := hide (there_yes T B rs y w h hy)
  obtain ⟨o, rfl, _, _, _, _, _, hOc⟩ := own_cell ho (by omega)
  have hgc := hOc (y * 6 + 2) _ (rqCs_at rs y hy 2 (by omega))
  have hdc := hOc (y * 6 + 1) _ (rqCs_at rs y hy 1 (by omega))
  rw [hg] at hgc
  rw [hd] at hdc
  clear hb ho h hOc hg hd
  go_enter Try.func18, Try.ntmps18
  go_wp2_with fail
  refine MC.out.mono ?_
  rintro e w' ⟨rfl, rfl⟩
  go_wp2_with fail
  refine TX.out.mono ?_
  rintro e w' ⟨rfl, rfl⟩
  go_wp2_with fail
  go_ret
  exact ⟨rfl, rfl⟩
set_option maxRecDepth 100000 in
set_option maxHeartbeats 4000000 in
theorem Complete_yes (T B : Nat) (rs : List Rq) (y : Nat) (v p t : Int) (w : World) (h : PR w T B rs) (hy : y < rs.length) (hg : rs[y].gone = false) (hd : rs[y].done = false) :
    Calls Try.prog 18 #[.pointer (some ⟨T, 0, none⟩), .int .i64 y, .int .i64 v, .int .i64 p, .int .i64 t] w fun e w' => e = .returned (.int .i64 0) ∧ PR w' T B (rs.set y (rs[y].full v p t)) ∧ Below B w w' ∧ KeepsBut [47] w w' := by
  obtain ⟨h0, hrl, O, oc, hb, ho⟩ := id h
  have c0 : w.cell? ⟨T, 0, none⟩ = some (.bool true) := hb.cell 0
  have c1 : w.cell? ⟨T, 1, none⟩ = some (.slice O rs.length oc) := hb.cell 1
  have MC := hide (made_c T w c0)
  have hyI : (y : Int) < (rs.length : Int) := by omega
  have TX := hide (there_yes T B rs y w h hy)
  obtain ⟨o, rfl, hBo, _, ⟨cso, hOb⟩, hOf, _, hOc⟩ := own_cell ho (by omega)
  have hgc := hOc (y * 6 + 2) _ (rqCs_at rs y hy 2 (by omega))
  have hdc := hOc (y * 6 + 1) _ (rqCs_at rs y hy 1 (by omega))
  have hvc := hOc (y * 6 + 3) _ (rqCs_at rs y hy 3 (by omega))
  have hpc := hOc (y * 6 + 4) _ (rqCs_at rs y hy 4 (by omega))
  have htc := hOc (y * 6 + 5) _ (rqCs_at rs y hy 5 (by omega))
  have g1 := hOf (y * 6 + 1)
  have g3 := hOf (y * 6 + 3)
  have g4 := hOf (y * 6 + 4)
  have g5 := hOf (y * 6 + 5)
  have o1 := own_set (k := y * 6 + 1) ho (.bool true)
  have o2 := own_set (k := y * 6 + 3) o1 (.int .i64 v)
  have o3 := own_set (k := y * 6 + 4) o2 (.int .i64 p)
  have o4 := own_set (k := y * 6 + 5) o3 (.int .i64 t)
  rw [rqCs_full v p t rs y hy] at o4
  have k1 := keeps_set (p := ⟨o, y * 6 + 1, none⟩) hOb (.bool true)
  have k2 := k1.trans (keeps_set (p := ⟨o, y * 6 + 3, none⟩) (hOb.set_ _ _) (.int .i64 v))
  have k3 := k2.trans (keeps_set (p := ⟨o, y * 6 + 4, none⟩) ((hOb.set_ _ _).set_ _ _) (.int .i64 p))
  have k4 := k3.trans (keeps_set (p := ⟨o, y * 6 + 5, none⟩) (((hOb.set_ _ _).set_ _ _).set_ _ _) (.int .i64 t))
  have b4 := ((((Below.refl B w).setCell (p := ⟨o, y * 6 + 1, none⟩) hBo (.bool true)).setCell (p := ⟨o, y * 6 + 3, none⟩) hBo (.int .i64 v)).setCell (p := ⟨o, y * 6 + 4, none⟩) hBo (.int .i64 p)).setCell (p := ⟨o, y * 6 + 5, none⟩) hBo (.int .i64 t)
  obtain ⟨w4, hw4⟩ : ∃ x, (((w.setCell ⟨o, y * 6 + 1, none⟩ (.bool true)).setCell ⟨o, y * 6 + 3, none⟩ (.int .i64 v)).setCell ⟨o, y * 6 + 4, none⟩ (.int .i64 p)).setCell ⟨o, y * 6 + 5, none⟩ (.int .i64 t) = x := ⟨_, rfl⟩
  rw [hw4] at o4 k4 b4
  have FIN := hide (show PR w4 T B (rs.set y (rs[y].full v p t)) ∧ Below B w w4 ∧ KeepsBut [47] w w4 from ⟨⟨h0, by rw [List.length_set]; exact hrl, some ⟨o, 0, none⟩, oc, by rw [List.length_set]; exact KeepsBut.blk k4 hb (by decide), by rw [List.length_set]; exact o4⟩, b4, k4⟩)
  rw [hg] at hgc
  rw [hd] at hdc
  obtain ⟨v0, hv0⟩ : ∃ x, rs[y].v = x := ⟨_, rfl⟩
  obtain ⟨p0, hp0⟩ : ∃ x, rs[y].p = x := ⟨_, rfl⟩
  obtain ⟨t0, ht0⟩ : ∃ x, rs[y].t = x := ⟨_, rfl⟩
  have hvc : w.cell? ⟨o, y * 6 + 3, none⟩ = some (.int .i64 v0) := by rw [← hv0]; exact hvc
  have hpc : w.cell? ⟨o, y * 6 + 4, none⟩ = some (.int .i64 p0) := by rw [← hp0]; exact hpc
  have htc : w.cell? ⟨o, y * 6 + 5, none⟩ = some (.int .i64 t0) := by rw [← ht0]; exact htc
  clear hb ho h hOc hg hd o1 o2 o3 o4 k1 k2 k3 k4 b4 hOb hOf hv0 hp0 ht0
  go_enter Try.func18, Try.ntmps18
  go_wp2_with fail
  refine MC.out.mono ?_
  rintro e w' ⟨rfl, rfl⟩
  go_wp2_with fail
  refine TX.out.mono ?_
  rintro e w' ⟨rfl, rfl⟩
  go_wp2_with fail
  go_ret
  exact ⟨rfl, FIN.out⟩
end Req
end Go.Proofs.Ytiggmieoldjhnaa
