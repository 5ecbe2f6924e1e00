/- The call of a kind with requests, by the program. -/
import Derived.Test.YtoiibphbogpojaaDoorRows
import Derived.Test.YtoiibphbogpojaaDoorVmV
namespace Go.Proofs.YtoiibphbogpojaaDoor
open Go Go.RowKit Go.Lib Go.Proofs.YtoiibphbogpojaaDoor.Cod
set_option linter.unusedVariables false
set_option linter.unusedSimpArgs false
namespace Vm
theorem int_infoV : (Tryd.prog.info? 3).map (fun i => (i.zero, i.size, i.bytes)) = some (some (.int .i64 0), 1, 8) := by kernel_rfl
/-- A row of numbers that is read. -/
def IRow (w : World) (ad : Addr) (l : List Int) : Prop := ad.block < w.heap.size ∧ ∀ j, j < l.length → w.cell? (ad.add j) = some (.int .i64 (l.getD j 0))
theorem IRow.below {w w' : World} {ad : Addr} {l : List Int} (h : IRow w ad l) (hb : Below w.heap.size w w') : IRow w' ad l :=
  ⟨Nat.lt_of_lt_of_le h.1 hb.size, fun j hj => (hb.cell (p := ad.add j) (by rw [block_of_add]; exact h.1)).trans (h.2 j hj)⟩
theorem take_sn (l : List Int) (k : Nat) (h : k < l.length) : l.take (k + 1) = l.take k ++ [l.getD k 0] := by
  rw [List.take_succ_eq_append_getElem h, List.getD, List.getElem?_eq_getElem h]
  rfl
/-- The requests in the making. -/
structure CqSt (w wr : World) (k op : Int) (A : Option Addr) (c : Nat) (zs : List Int) : Prop where
  res : Blk wr w.heap.size 33 (clA 0 0 0 0 0 0 0 0 none 0 0 0 0)
  box : Blk wr (w.heap.size + 1) 33 (clA k 0 0 0 0 0 0 op A zs.length c 0 0)
  own : wr.ownsRow (w.heap.size + 2) 3 1 (.slice A zs.length c) zs.length (i64s zs)
  bl : Below w.heap.size w wr
  le : w.heap.size + 2 ≤ wr.heap.size
section
variable {w wr w1 : World} {k op : Int} {A : Option Addr} {c : Nat} {zs : List Int}
theorem CqSt.below (s : CqSt w wr k op A c zs) (h : Below wr.heap.size wr w1) : CqSt w w1 k op A c zs :=
  ⟨s.res.below h s.res.lt, s.box.below h s.box.lt, ⟨s.own.1, s.own.2.imp id (by
    rintro ⟨g, cap, cur, h0, hge, hh, q⟩
    exact ⟨g, cap, cur, h0, hge, (h.block g (Array.getElem?_eq_some_iff.1 hh).1).trans hh, q⟩)⟩, s.bl.trans (h.mono s.bl.size), Nat.le_trans s.le h.size⟩
theorem CqSt.push (s : CqSt w wr k op A c zs) (z : Int) (g : Nat) (hg : Blk wr g 3 #[.int .i64 z]) (hl : zs.length ≤ 100000) : ∃ A1 c1 w11, (Builtin.append_ #[25, 25] 25 #[.slice A zs.length c, .slice (some ⟨g, 0, none⟩) 1 1]).run Tryd.prog wr = .ok (.slice A1 (zs.length + 1) c1) w11 ∧
    w11.cell? ⟨w.heap.size + 1, 8, none⟩ = some (.slice A zs.length c) ∧ w11.frozen? ⟨w.heap.size + 1, 8, none⟩ = false ∧ Hid (CqSt w (w11.setCell ⟨w.heap.size + 1, 8, none⟩ (.slice A1 (zs.length + 1) c1)) k op A1 c1 (zs ++ [z])) := by
  obtain ⟨i0, hi0, hz0', hz1, hz2⟩ := info_parts int_infoV
  have hrd : Reads wr wr.heap.size 1 (some ⟨g, 0, none⟩) 1 [.int .i64 z] := ⟨rfl, fun _ => ⟨_, rfl, hg.lt, fun j u hu => by rw [add_lit, hg.cell]; simpa using hu⟩⟩
  obtain ⟨v11, w11, hrun, hown, hk11, _⟩ := run_append_any (P := Tryd.prog) wr (w.heap.size + 2) 25 25 3 i0 _ 1 8 Tryd.underlying25 hi0 hz0' hz1 hz2 (by rfl) (by omega) _ _ _ s.own _ (some ⟨g, 0, none⟩) 1 1 _ hrd (by intro u hu; rw [List.mem_singleton.1 hu]; rfl) (by unfold maxLen; omega) (by omega) s.le
  obtain ⟨A1, c1, rfl⟩ := form_of hown
  have hob : ∀ g, (Value.slice A zs.length c).ownBlock = some g → w.heap.size + 2 ≤ g := fun g h => (own_block s.own h).1
  have kp : ∀ j, j < w.heap.size + 2 → w11.heap[j]? = wr.heap[j]? := fun j h1 => hk11.block j (Nat.lt_of_lt_of_le h1 s.le) (fun e => by have := hob j e.symm; omega)
  have bx : Blk w11 (w.heap.size + 1) 33 (clA k 0 0 0 0 0 0 op A zs.length c 0 0) := (kp _ (by omega)).trans s.box
  have rs : Blk w11 w.heap.size 33 (clA 0 0 0 0 0 0 0 0 none 0 0 0 0) := (kp _ (by omega)).trans s.res
  have bl : Below w.heap.size w w11 := s.bl.grown hk11 s.bl.size (fun g h => by have := hob g h; omega)
  have hlen : (zs ++ [z]).length = zs.length + 1 := by simp
  refine ⟨A1, c1, w11, hrun, bx.cell 8, bx.frozen 8, hide ⟨rs.far (p := ⟨w.heap.size + 1, 8, none⟩) (by show w.heap.size ≠ w.heap.size + 1; omega) _, ?_, ?_, bl.setCell (p := ⟨w.heap.size + 1, 8, none⟩) (Nat.le_succ _) _, ?_⟩⟩
  · rw [hlen]; exact bx.set_ 8 _
  · rw [hlen, i64s_app]; exact own_set_far (p := ⟨w.heap.size + 1, 8, none⟩) hown (by show w.heap.size + 1 < _; omega) _
  · simpa [World.setCell] using Nat.le_trans s.le hk11.size
/-- The requests that a call tells, as they lie. -/
def RqAt (w : World) (B : Nat) (ra : Option Addr) (rc : Nat) (rq : List Int) : Prop := (rq = [] ∧ ra = none ∧ rc = 0) ∨ ∃ g cur, 0 < rq.length ∧ ra = some ⟨g, 0, none⟩ ∧ B ≤ g ∧ Blk w g 3 cur ∧ ∀ j, j < rq.length → cur[j]? = some (.int .i64 (rq.getD j 0))
theorem RqAt.below {B : Nat} {ra : Option Addr} {rc : Nat} {rq : List Int} (h : RqAt w B ra rc rq) (hb : Below w.heap.size w w1) : RqAt w1 B ra rc rq := by
  rcases h with h | ⟨g, cur, h0, h1, h2, h3, h4⟩
  · exact .inl h
  · exact .inr ⟨g, cur, h0, h1, h2, h3.below hb h3.lt, h4⟩
theorem CqSt.rqAt (s : CqSt w wr k op A c zs) (h0 : 0 < zs.length) : RqAt wr w.heap.size A c zs := by
  obtain ⟨g, hA, hge, _, ⟨cs, hb⟩, _, _, hc⟩ := own_cell s.own h0
  refine .inr ⟨g, cs, h0, hA, by omega, hb, fun j hj => ?_⟩
  have e := hc j (.int .i64 (zs.getD j 0)) (by rw [i64s, List.getElem?_map, List.getD, List.getElem?_eq_getElem hj]; rfl)
  rw [hb.cell] at e
  exact e
set_option maxRecDepth 100000 in
set_option maxHeartbeats 8000000 in
theorem call_reqs (k op : Int) (hk : k = 8 ∨ k = 9 ∨ k = 10 ∨ k = 11 ∨ k = 12) (l : List Int) (ad : Addr) (cc : Nat) (w : World) (h0 : 0 < l.length) (hn : l.length ≤ 1000) (hr : IRow w ad l) :
    Calls Tryd.prog 45 #[.int .u8 k, .int .u8 op, .slice (some ad) l.length cc] w fun e w' => ∃ ra rc, e = .returned (.agg (clA k 0 0 0 0 0 0 op ra l.length rc 0 0)) ∧ RqAt w' w.heap.size ra rc l ∧ Below w.heap.size w w' := by
  have k1 : (8 : Int) ≤ k := by omega
  have k2 : k ≤ 12 := by omega
  obtain ⟨n, hln⟩ : ∃ n, l.length = n := ⟨_, rfl⟩
  have b2 := ((Below.refl w.heap.size w).alloc (Nat.le_refl _) (.cells (clA 0 0 0 0 0 0 0 0 none 0 0 0 0) 33)).alloc (by simp) (.cells (clA k 0 0 0 0 0 0 op none 0 0 0 0) 33)
  have q1 := (Blk.new w 33 (clA 0 0 0 0 0 0 0 0 none 0 0 0 0)).below ((Below.refl _ _).alloc (Nat.le_refl _) (.cells (clA k 0 0 0 0 0 0 op none 0 0 0 0) 33)) (Blk.new w _ _).lt
  have q2 := Blk.new (w.alloc (.cells (clA 0 0 0 0 0 0 0 0 none 0 0 0 0) 33)) 33 (clA k 0 0 0 0 0 0 op none 0 0 0 0)
  rw [show (w.alloc (.cells (clA 0 0 0 0 0 0 0 0 none 0 0 0 0) 33)).heap.size = w.heap.size + 1 by simp] at q2
  have ST0 : Hid (CqSt w ((w.alloc (.cells (clA 0 0 0 0 0 0 0 0 none 0 0 0 0) 33)).alloc (.cells (clA k 0 0 0 0 0 0 op none 0 0 0 0) 33)) k op none 0 (l.take 0)) := hide ⟨q1, q2, ⟨rfl, .inl ⟨rfl, rfl⟩⟩, b2, by simp⟩
  have HR := hide hr
  have HLN := hide hln
  have HN := hide hn
  have H0 := hide h0
  rw [hln]
  clear hk hr b2 q1 q2 hln hn h0
  unfold clA at ST0
  go_enter Tryd.func45, Tryd.ntmps45
  go_wp2_with fail
  go_loopw [9, 21] (fun v9 vi wr => ∃ (i : Nat) (A : Option Addr) (c : Nat), i ≤ n ∧ vi = .int .i64 i ∧ Hid (CqSt w wr k op A c (l.take i))) (fun _ vi _ => n - (RowKit.intOf vi).toNat)
  case atStart => exact ⟨0, none, 0, Nat.zero_le _, rfl, ST0⟩
  case round =>
    obtain ⟨i, A, c, hi, rfl, HS⟩ := hrel
    have hti : (l.take i).length = i := by rw [List.length_take, HLN.out]; omega
    by_cases hlt : i < n
    rotate_left
    · have hltI : ¬ (i : Int) < (n : Int) := by omega
      obtain rfl : i = n := by omega
      have htl : l.take i = l := List.take_of_length_le (Nat.le_of_eq HLN.out)
      have HS1 := HS.out
      rw [htl] at HS1
      have HB1 := HS1.box
      have HR1 : Blk wr w.heap.size 33 #[.int .u8 0, .int .i64 0, .int .i64 0, .int .i64 0, .int .i64 0, .int .i64 0, .int .i64 0, .int .u8 0, .slice none 0 0, .int .i64 0, .int .i64 0] := HS1.res
      rw [HLN.out] at HB1
      have x0 : wr.cell? ⟨w.heap.size + 1, 0, none⟩ = some (.int .u8 k) := HB1.cell 0
      have x1 : wr.cell? ⟨w.heap.size + 1, 1, none⟩ = some (.int .i64 0) := HB1.cell 1
      have x2 : wr.cell? ⟨w.heap.size + 1, 2, none⟩ = some (.int .i64 0) := HB1.cell 2
      have x3 : wr.cell? ⟨w.heap.size + 1, 3, none⟩ = some (.int .i64 0) := HB1.cell 3
      have x4 : wr.cell? ⟨w.heap.size + 1, 4, none⟩ = some (.int .i64 0) := HB1.cell 4
      have x5 : wr.cell? ⟨w.heap.size + 1, 5, none⟩ = some (.int .i64 0) := HB1.cell 5
      have x6 : wr.cell? ⟨w.heap.size + 1, 6, none⟩ = some (.int .i64 0) := HB1.cell 6
      have x7 : wr.cell? ⟨w.heap.size + 1, 7, none⟩ = some (.int .u8 op) := HB1.cell 7
      have x8 : wr.cell? ⟨w.heap.size + 1, 8, none⟩ = some (.slice A i c) := HB1.cell 8
      have x9 : wr.cell? ⟨w.heap.size + 1, 9, none⟩ = some (.int .i64 0) := HB1.cell 9
      have x10 : wr.cell? ⟨w.heap.size + 1, 10, none⟩ = some (.int .i64 0) := HB1.cell 10
      have f0 := HR1.frozen 0
      have fc0 := HR1.cell 0
      have fK0 := HR1.set_ 0 (.int .u8 k)
      have f1 := fK0.frozen 1
      have fc1 := fK0.cell 1
      have fK1 := fK0.set_ 1 (.int .i64 0)
      have f2 := fK1.frozen 2
      have fc2 := fK1.cell 2
      have fK2 := fK1.set_ 2 (.int .i64 0)
      have f3 := fK2.frozen 3
      have fc3 := fK2.cell 3
      have fK3 := fK2.set_ 3 (.int .i64 0)
      have f4 := fK3.frozen 4
      have fc4 := fK3.cell 4
      have fK4 := fK3.set_ 4 (.int .i64 0)
      have f5 := fK4.frozen 5
      have fc5 := fK4.cell 5
      have fK5 := fK4.set_ 5 (.int .i64 0)
      have f6 := fK5.frozen 6
      have fc6 := fK5.cell 6
      have fK6 := fK5.set_ 6 (.int .i64 0)
      have f7 := fK6.frozen 7
      have fc7 := fK6.cell 7
      have fK7 := fK6.set_ 7 (.int .u8 op)
      have f8 := fK7.frozen 8
      have fc8 := fK7.cell 8
      have fK8 := fK7.set_ 8 (.slice A i c)
      have f9 := fK8.frozen 9
      have fc9 := fK8.cell 9
      have fK9 := fK8.set_ 9 (.int .i64 0)
      have f10 := fK9.frozen 10
      have fc10 := fK9.cell 10
      have fK10 := fK9.set_ 10 (.int .i64 0)
      have fu0 := fK10.cell 0
      have fu1 := fK10.cell 1
      have fu2 := fK10.cell 2
      have fu3 := fK10.cell 3
      have fu4 := fK10.cell 4
      have fu5 := fK10.cell 5
      have fu6 := fK10.cell 6
      have fu7 := fK10.cell 7
      have fu8 := fK10.cell 8
      have fu9 := fK10.cell 9
      have fu10 := fK10.cell 10
      have FIN := hide (show ∃ ra rc, (Ending.returned (.agg #[.int .u8 k, .int .i64 0, .int .i64 0, .int .i64 0, .int .i64 0, .int .i64 0, .int .i64 0, .int .u8 op, .slice A i c, .int .i64 0, .int .i64 0])) = .returned (.agg (clA k 0 0 0 0 0 0 op ra i rc 0 0)) ∧ RqAt (((((((((((wr.setCell ⟨w.heap.size, 0, none⟩ (.int .u8 k)).setCell ⟨w.heap.size, 1, none⟩ (.int .i64 0)).setCell ⟨w.heap.size, 2, none⟩ (.int .i64 0)).setCell ⟨w.heap.size, 3, none⟩ (.int .i64 0)).setCell ⟨w.heap.size, 4, none⟩ (.int .i64 0)).setCell ⟨w.heap.size, 5, none⟩ (.int .i64 0)).setCell ⟨w.heap.size, 6, none⟩ (.int .i64 0)).setCell ⟨w.heap.size, 7, none⟩ (.int .u8 op)).setCell ⟨w.heap.size, 8, none⟩ (.slice A i c)).setCell ⟨w.heap.size, 9, none⟩ (.int .i64 0)).setCell ⟨w.heap.size, 10, none⟩ (.int .i64 0)) w.heap.size ra rc l ∧ Below w.heap.size w (((((((((((wr.setCell ⟨w.heap.size, 0, none⟩ (.int .u8 k)).setCell ⟨w.heap.size, 1, none⟩ (.int .i64 0)).setCell ⟨w.heap.size, 2, none⟩ (.int .i64 0)).setCell ⟨w.heap.size, 3, none⟩ (.int .i64 0)).setCell ⟨w.heap.size, 4, none⟩ (.int .i64 0)).setCell ⟨w.heap.size, 5, none⟩ (.int .i64 0)).setCell ⟨w.heap.size, 6, none⟩ (.int .i64 0)).setCell ⟨w.heap.size, 7, none⟩ (.int .u8 op)).setCell ⟨w.heap.size, 8, none⟩ (.slice A i c)).setCell ⟨w.heap.size, 9, none⟩ (.int .i64 0)).setCell ⟨w.heap.size, 10, none⟩ (.int .i64 0)) from ⟨A, c, rfl, by
        rcases HS1.rqAt H0.out with h | ⟨g, cur, h0, h1, h2, h3, h4⟩
        · exact .inl h
        · obtain ⟨g', hA, hge, _, _⟩ := own_cell HS1.own H0.out
          have hne : g ≠ w.heap.size := by
            rw [h1] at hA
            injection hA with hA
            injection hA with hA
            omega
          exact .inr ⟨g, cur, h0, h1, h2, (((((((((((h3.far (p := ⟨w.heap.size, 0, none⟩) hne _).far (p := ⟨w.heap.size, 1, none⟩) hne _).far (p := ⟨w.heap.size, 2, none⟩) hne _).far (p := ⟨w.heap.size, 3, none⟩) hne _).far (p := ⟨w.heap.size, 4, none⟩) hne _).far (p := ⟨w.heap.size, 5, none⟩) hne _).far (p := ⟨w.heap.size, 6, none⟩) hne _).far (p := ⟨w.heap.size, 7, none⟩) hne _).far (p := ⟨w.heap.size, 8, none⟩) hne _).far (p := ⟨w.heap.size, 9, none⟩) hne _).far (p := ⟨w.heap.size, 10, none⟩) hne _), h4⟩, (((((((((((HS1.bl.setCell (p := ⟨w.heap.size, 0, none⟩) (Nat.le_refl _) _).setCell (p := ⟨w.heap.size, 1, none⟩) (Nat.le_refl _) _).setCell (p := ⟨w.heap.size, 2, none⟩) (Nat.le_refl _) _).setCell (p := ⟨w.heap.size, 3, none⟩) (Nat.le_refl _) _).setCell (p := ⟨w.heap.size, 4, none⟩) (Nat.le_refl _) _).setCell (p := ⟨w.heap.size, 5, none⟩) (Nat.le_refl _) _).setCell (p := ⟨w.heap.size, 6, none⟩) (Nat.le_refl _) _).setCell (p := ⟨w.heap.size, 7, none⟩) (Nat.le_refl _) _).setCell (p := ⟨w.heap.size, 8, none⟩) (Nat.le_refl _) _).setCell (p := ⟨w.heap.size, 9, none⟩) (Nat.le_refl _) _).setCell (p := ⟨w.heap.size, 10, none⟩) (Nat.le_refl _) _)⟩)
      clear htl HS1 HB1 HR1 fK0 fK1 fK2 fK3 fK4 fK5 fK6 fK7 fK8 fK9 fK10 HS HR HN H0 ST0 hti
      go_wp2_with fail
      exact bodyPost_ret (v := .agg #[.int .u8 k, .int .i64 0, .int .i64 0, .int .i64 0, .int .i64 0, .int .i64 0, .int .i64 0, .int .u8 op, .slice A i c, .int .i64 0, .int .i64 0]) (by simp [results, Tryd.results45, go_sem, fu0, fu1, fu2, fu3, fu4, fu5, fu6, fu7, fu8, fu9, fu10]) rfl FIN.out
    · have hltI : (i : Int) < (n : Int) := by omega
      have hs1 : IntKind.i64.wrap ((i : Int) + 1) = (i : Int) + 1 := by rw [IntKind.wrap_i64]; have := HN.out; have := HLN.out; omega
      have HS1 := HS.out
      obtain ⟨z, hz⟩ : ∃ z, l.getD i 0 = z := ⟨_, rfl⟩
      have cz : wr.cell? (ad.add i) = some (.int .i64 z) := by
        rw [← hz]
        exact (HR.out.below HS1.bl).2 i (by rw [HLN.out]; exact hlt)
      have ba := (Below.refl wr.heap.size wr).alloc (Nat.le_refl _) (.cells #[.int .i64 z] 3)
      obtain ⟨A1, c1, w11, hrun, hc8, hf8, hst⟩ := (HS1.below ba).push z wr.heap.size (Blk.new wr 3 #[.int .i64 z]) (by rw [hti]; have := HN.out; have := HLN.out; omega)
      rw [hti] at hrun hc8 hst
      have x8 : wr.cell? ⟨w.heap.size + 1, 8, none⟩ = some (.slice A i c) := by rw [← hti]; exact HS1.box.cell 8
      rw [show l.take i ++ [z] = l.take (i + 1) by rw [take_sn l i (by rw [HLN.out]; exact hlt), hz]] at hst
      have RUN := hide hrun
      clear HS HS1 hti hz ba hrun
      go_wp2_with (at_builtin; refine Lib.wpList_append_run _ rfl _ _ 25 25 rfl _ _ rfl rfl _ _ RUN.out ?_)
      go_roundw
      case rel => exact ⟨i + 1, A1, c1, by omega, by go_num, hst⟩
      case measure => simp [RowKit.intOf] <;> omega
end
end Vm
end Go.Proofs.YtoiibphbogpojaaDoor
