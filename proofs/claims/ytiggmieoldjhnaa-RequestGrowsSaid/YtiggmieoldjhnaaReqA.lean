/- A rank's requests, as the program keeps them: New, Many, Add. -/
import Derived.Test.YtiggmieoldjhnaaRows
import Derived.Test.YtiggmieoldjhnaaOwn
import Derived.Lib.AppendZeros
import Derived.LoopN
namespace Go.Proofs.Ytiggmieoldjhnaa
open Go Go.RowKit
set_option linter.unusedVariables false
set_option linter.unusedSimpArgs false
namespace Req
/-- A request: a receive, complete, taken; what it was completed with. -/
structure Rq where
  recv : Bool
  done : Bool
  gone : Bool
  v : Int
  p : Int
  t : Int
deriving DecidableEq
instance : Inhabited Rq := ⟨⟨false, false, false, 0, 0, 0⟩⟩
def rqC (x : Rq) : List Value := [.bool x.recv, .bool x.done, .bool x.gone, .int .i64 x.v, .int .i64 x.p, .int .i64 x.t]
def rqCs (l : List Rq) : List Value := l.flatMap rqC
theorem rqCs_app (a b : List Rq) : rqCs (a ++ b) = rqCs a ++ rqCs b := by simp [rqCs]
theorem rqCs_len : ∀ l : List Rq, (rqCs l).length = l.length * 6
  | [] => rfl
  | t :: l => by
    rw [show rqCs (t :: l) = rqC t ++ rqCs l from rfl, List.length_append, rqCs_len l]
    show 6 + _ = (l.length + 1) * 6
    omega
theorem rqCs_at : ∀ (l : List Rq) (i : Nat) (hi : i < l.length) (j : Nat), j < 6 → (rqCs l)[i * 6 + j]? = (rqC l[i])[j]?
  | t :: l, 0, _, j, hj => by
    rw [show rqCs (t :: l) = rqC t ++ rqCs l from rfl, List.getElem?_append_left (by show _ < 6; omega)]
    simp
  | t :: l, i + 1, hi, j, hj => by
    rw [show rqCs (t :: l) = rqC t ++ rqCs l from rfl, List.getElem?_append_right (by show 6 ≤ _; omega)]
    have := rqCs_at l i (by simpa using hi) j hj
    rw [show (i + 1) * 6 + j - (rqC t).length = i * 6 + j by show (i + 1) * 6 + j - 6 = _; omega]
    simpa using this
/-- The table at block T, its row at a block from B on. -/
def PR (w : World) (T B : Nat) (rs : List Rq) : Prop := B ≤ T ∧ rs.length ≤ 256 ∧ ∃ O oc, Blk w T 49 #[.bool true, .slice O rs.length oc] ∧ w.ownsRow B 47 6 (.slice O rs.length oc) rs.length (rqCs rs)
theorem PR.below {w w' : World} {T B : Nat} {rs : List Rq} (h : PR w T B rs) (hb : Below w.heap.size w w') : PR w' T B rs := by
  obtain ⟨h0, h1, O, oc, h2, h3⟩ := h
  exact ⟨h0, h1, O, oc, h2.below hb h2.lt, own_belowR h3 hb⟩
theorem PR.lt {w : World} {T B : Nat} {rs : List Rq} (h : PR w T B rs) : T < w.heap.size := by
  obtain ⟨_, _, _, _, h2, _⟩ := h
  exact h2.lt
theorem PR.keep {tys : List TypeId} {w w' : World} {T B : Nat} {rs : List Rq} (h : PR w T B rs) (k : KeepsBut tys w w') (h1 : ¬ 49 ∈ tys) (h2 : ¬ 47 ∈ tys) : PR w' T B rs := by
  obtain ⟨h0, hl, O, oc, hb, ho⟩ := h
  exact ⟨h0, hl, O, oc, KeepsBut.blk k hb h1, KeepsBut.own k ho h2⟩
theorem rq_info : (Try.prog.info? 47).map (fun i => (i.zero, i.size, i.bytes)) = some (some (.agg #[.bool false, .bool false, .bool false, .int .i64 0, .int .i64 0, .int .i64 0]), 6, 32) := by kernel_rfl
theorem made_c (T : Nat) (w : World) (h : w.cell? ⟨T, 0, none⟩ = some (.bool true)) : Calls Try.prog 20 #[.pointer (some ⟨T, 0, none⟩)] w fun e w' => e = .returned (.bool true) ∧ w = w' := by
  go_enter Try.func20, Try.ntmps20
  go_wp2
  go_ret
  exact ⟨rfl, rfl⟩
theorem Many_c (T B : Nat) (rs : List Rq) (w : World) (h : PR w T B rs) : Calls Try.prog 10 #[.pointer (some ⟨T, 0, none⟩)] w fun e w' => e = .returned (.int .i64 rs.length) ∧ w = w' := by
  obtain ⟨_, _, O, oc, hb, _⟩ := h
  have c0 : w.cell? ⟨T, 0, none⟩ = some (.bool true) := hb.cell 0
  have c1 : w.cell? ⟨T, 1, none⟩ = some (.slice O rs.length oc) := hb.cell 1
  have MC := hide (made_c T w c0)
  clear hb
  go_enter Try.func10, Try.ntmps10
  go_wp2_with fail
  refine MC.out.mono ?_
  rintro e w' ⟨rfl, rfl⟩
  go_wp2_with fail
  go_ret
  exact ⟨rfl, rfl⟩
theorem there_yes (T B : Nat) (rs : List Rq) (i : Nat) (w : World) (h : PR w T B rs) (hi : i < rs.length) : Calls Try.prog 25 #[.pointer (some ⟨T, 0, none⟩), .int .i64 i] w fun e w' => e = .returned (.bool true) ∧ w = w' := by
  obtain ⟨_, hl, O, oc, hb, _⟩ := h
  have c1 : w.cell? ⟨T, 1, none⟩ = some (.slice O rs.length oc) := hb.cell 1
  have hI : (i : Int) < (rs.length : Int) := by omega
  clear hb
  go_enter Try.func25, Try.ntmps25
  go_wp2_with fail
  go_ret
  exact ⟨by simp, rfl⟩
theorem there_no (T B : Nat) (rs : List Rq) (i : Int) (w : World) (h : PR w T B rs) (hi : ¬ (0 ≤ i ∧ i < rs.length)) : Calls Try.prog 25 #[.pointer (some ⟨T, 0, none⟩), .int .i64 i] w fun e w' => e = .returned (.bool false) ∧ w = w' := by
  obtain ⟨_, hl, O, oc, hb, _⟩ := h
  have c1 : w.cell? ⟨T, 1, none⟩ = some (.slice O rs.length oc) := hb.cell 1
  clear hb
  by_cases h0 : 0 ≤ i
  · have hI : ¬ i < (rs.length : Int) := fun h => hi ⟨h0, h⟩
    clear hi
    go_enter Try.func25, Try.ntmps25
    go_wp2_with fail
    go_ret
    exact ⟨by simp, rfl⟩
  · clear hi
    go_enter Try.func25, Try.ntmps25
    go_wp2_with fail
    go_ret
    exact ⟨by simp, rfl⟩
theorem New_c (w : World) : Calls Try.prog 7 #[] w fun e w' => e = .returned (.pointer (some ⟨w.heap.size, 0, none⟩)) ∧ PR w' w.heap.size w.heap.size [] ∧ Below w.heap.size w w' := by
  have hb := (Below.refl w.heap.size w).alloc (Nat.le_refl _) (.cells #[.bool true, .slice none 0 0] 49)
  have kb := Blk.new w 49 #[.bool true, .slice none 0 0]
  have HB := hide hb
  have KB := hide kb
  clear hb kb
  go_enter Try.func7, Try.ntmps7
  go_wp2_with fail
  go_ret
  exact ⟨rfl, ⟨Nat.le_refl _, Nat.zero_le _, none, 0, KB.out, ⟨rfl, .inl ⟨rfl, rfl⟩⟩⟩, HB.out⟩
/-- A request put behind a row of one's own. -/
theorem push_rq (w : World) (B : Nat) (A : Option Addr) (cap n : Nat) (l : List Rq) (x : Rq) (hn : l.length = n) (h : w.ownsRow B 47 6 (.slice A n cap) n (rqCs l)) (hB : B ≤ w.heap.size) (hl : n ≤ 1000) :
    ∃ A1 c1 w1, (Builtin.append_ #[33, 33] 33 #[.slice A n cap, .slice (some ⟨w.heap.size, 0, none⟩) 1 1]).run Try.prog (w.alloc (.cells #[.bool x.recv, .bool x.done, .bool x.gone, .int .i64 x.v, .int .i64 x.p, .int .i64 x.t] 47)) = .ok (.slice A1 (n + 1) c1) w1 ∧
      w1.ownsRow B 47 6 (.slice A1 (n + 1) c1) (n + 1) (rqCs (l ++ [x])) ∧ Below B w w1 ∧ KeepsBut [47] w w1 := by
  have ba := (Below.refl w.heap.size w).alloc (Nat.le_refl _) (.cells #[.bool x.recv, .bool x.done, .bool x.gone, .int .i64 x.v, .int .i64 x.p, .int .i64 x.t] 47)
  have kb := Blk.new w 47 #[.bool x.recv, .bool x.done, .bool x.gone, .int .i64 x.v, .int .i64 x.p, .int .i64 x.t]
  have ow := own_belowR h ba
  have hs1 : (w.alloc (.cells #[.bool x.recv, .bool x.done, .bool x.gone, .int .i64 x.v, .int .i64 x.p, .int .i64 x.t] 47)).heap.size = w.heap.size + 1 := by simp
  obtain ⟨Wz, hWz⟩ : ∃ x', w.alloc (.cells #[.bool x.recv, .bool x.done, .bool x.gone, .int .i64 x.v, .int .i64 x.p, .int .i64 x.t] 47) = x' := ⟨_, rfl⟩
  rw [hWz] at ba kb ow hs1 ⊢
  have hrd : Reads Wz Wz.heap.size 6 (some ⟨w.heap.size, 0, none⟩) 1 (rqC x) := ⟨rfl, fun _ => ⟨_, rfl, kb.lt, fun j u hu => by rw [add_lit, kb.cell]; unfold rqC at hu; simpa using hu⟩⟩
  obtain ⟨i0, hi0, hz0', hz1, hz2⟩ := info_parts rq_info
  obtain ⟨v11, w11, hrun, hown, hk11, hob⟩ := run_append_any (P := Try.prog) Wz B 33 33 47 i0 _ 6 32 Try.underlying33 hi0 hz0' hz1 hz2 (by rfl) (by omega) _ _ _ ow Wz.heap.size (some ⟨w.heap.size, 0, none⟩) 1 1 _ hrd (by intro u hu; unfold rqC at hu; simp only [List.mem_cons, List.not_mem_nil, or_false] at hu; rcases hu with rfl | rfl | rfl | rfl | rfl | rfl <;> rfl) (by unfold maxLen; omega) (by omega) (by omega)
  obtain ⟨A11, c11, rfl⟩ := own_form hown
  exact ⟨A11, c11, w11, hrun, by rw [rqCs_app]; simpa [rqCs] using hown, (ba.mono hB).grown hk11 (by omega) (fun g e => (own_block h e).1), (KeepsBut.of_below ba).trans (grown_keeps ow hk11)⟩
set_option maxRecDepth 100000 in
set_option maxHeartbeats 2000000 in
theorem Add_full (T B : Nat) (rs : List Rq) (a b : Bool) (w : World) (h : PR w T B rs) (hf : rs.length = 256) : Calls Try.prog 8 #[.pointer (some ⟨T, 0, none⟩), .bool a, .bool b] w fun e w' => e = .returned (.tuple #[.int .i64 0, .int .i64 4]) ∧ w = w' := by
  obtain ⟨_, _, O, oc, hb, _⟩ := h
  have c0 : w.cell? ⟨T, 0, none⟩ = some (.bool true) := hb.cell 0
  have c1 : w.cell? ⟨T, 1, none⟩ = some (.slice O 256 oc) := by rw [← hf]; exact hb.cell 1
  have MC := hide (made_c T w c0)
  clear hb hf
  go_enter Try.func8, Try.ntmps8
  go_wp2_with fail
  refine MC.out.mono ?_
  rintro e w' ⟨rfl, rfl⟩
  go_wp2_with fail
  go_ret2
  exact ⟨rfl, rfl⟩
set_option maxRecDepth 100000 in
set_option maxHeartbeats 4000000 in
theorem Add_yes (T B : Nat) (rs : List Rq) (a b : Bool) (w : World) (h : PR w T B rs) (hf : rs.length < 256) : Calls Try.prog 8 #[.pointer (some ⟨T, 0, none⟩), .bool a, .bool b] w fun e w' => e = .returned (.tuple #[.int .i64 rs.length, .int .i64 0]) ∧ PR w' T B (rs ++ [⟨a, b, false, 0, 0, 0⟩]) ∧ Below B w w' ∧ KeepsBut [49, 47] w w' := by
  have hT := h.lt
  obtain ⟨h0, hl, O, oc, hb, ho⟩ := h
  have c0 : w.cell? ⟨T, 0, none⟩ = some (.bool true) := hb.cell 0
  have c1 : w.cell? ⟨T, 1, none⟩ = some (.slice O rs.length oc) := hb.cell 1
  have MC := hide (made_c T w c0)
  have hge : ¬ (256 : Int) ≤ (rs.length : Int) := by omega
  obtain ⟨A1, c1', w1, hrun, hown, hbel, hk⟩ := push_rq w B O oc rs.length rs ⟨a, b, false, 0, 0, 0⟩ rfl ho (by omega) (by omega)
  have hb1 := KeepsBut.blk hk hb (by decide)
  have d1 : w1.cell? ⟨T, 1, none⟩ = some (.slice O rs.length oc) := hb1.cell 1
  have f1 := hb1.frozen 1
  have hb2 := hb1.set_ 1 (.slice A1 (rs.length + 1) c1')
  have hk2 := keeps_set (p := ⟨T, 1, none⟩) hb1 (.slice A1 (rs.length + 1) c1')
  have hbel2 := hbel.setCell (p := ⟨T, 1, none⟩) h0 (.slice A1 (rs.length + 1) c1')
  have ho2 := KeepsBut.own hk2 hown (by decide)
  have hk3 := (hk.wide (t2 := [49, 47]) (by decide)).trans (hk2.wide (t2 := [49, 47]) (by decide))
  obtain ⟨w2, hw2⟩ : ∃ x, w1.setCell ⟨T, 1, none⟩ (.slice A1 (rs.length + 1) c1') = x := ⟨_, rfl⟩
  rw [hw2] at hb2 hbel2 ho2 hk3
  have e1 : w2.cell? ⟨T, 1, none⟩ = some (.slice A1 (rs.length + 1) c1') := hb2.cell 1
  have FIN := hide (show PR w2 T B (rs ++ [⟨a, b, false, 0, 0, 0⟩]) ∧ Below B w w2 ∧ KeepsBut [49, 47] w w2 from ⟨⟨h0, by rw [List.length_append, List.length_singleton]; omega, A1, c1', by rw [List.length_append, List.length_singleton]; simpa using hb2, by rw [List.length_append, List.length_singleton]; exact ho2⟩, hbel2, hk3⟩)
  have RUN := hide hrun
  clear hb ho hrun hown hbel hk hb1 hb2 hk2 hbel2 ho2 hk3 h0 hl hT
  go_enter Try.func8, Try.ntmps8
  go_wp2_with fail
  refine MC.out.mono ?_
  rintro e w' ⟨rfl, rfl⟩
  go_wp2_with (at_builtin; refine Lib.wpList_append_run _ rfl _ _ 33 33 rfl _ _ rfl rfl _ _ RUN.out ?_)
  go_ret2
  exact ⟨by simp, FIN.out⟩
end Req
end Go.Proofs.Ytiggmieoldjhnaa
