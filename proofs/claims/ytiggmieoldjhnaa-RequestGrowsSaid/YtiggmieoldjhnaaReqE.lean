/- Which requests are left: the program's Left. -/
import Derived.Test.YtiggmieoldjhnaaRows
import Derived.Test.YtiggmieoldjhnaaReqD
import Derived.Lib.AppendZeros
namespace Go.Proofs.Ytiggmieoldjhnaa
open Go Go.RowKit Go.Proofs.Ytiggmieoldjhnaa.Grp
set_option linter.unusedVariables false
set_option linter.unusedSimpArgs false
namespace Req
theorem ints_app (a b : List Int) : ints (a ++ b) = ints a ++ ints b := by simp [ints]
/-- A number put behind a row of one's own. -/
theorem push_int (w : World) (B : Nat) (A : Option Addr) (cap n : Nat) (l : List Int) (x : Int) (hn : l.length = n) (h : w.ownsRow B 3 1 (.slice A n cap) n (ints l)) (hB : B ≤ w.heap.size) (hl : n ≤ 100000) :
    ∃ A1 c1 w1, (Builtin.append_ #[27, 27] 27 #[.slice A n cap, .slice (some ⟨w.heap.size, 0, none⟩) 1 1]).run Try.prog (w.alloc (.cells #[.int .i64 x] 3)) = .ok (.slice A1 (n + 1) c1) w1 ∧
      w1.ownsRow B 3 1 (.slice A1 (n + 1) c1) (n + 1) (ints (l ++ [x])) ∧ Below B w w1 ∧ KeepsBut [3] w w1 := by
  have ba := (Below.refl w.heap.size w).alloc (Nat.le_refl _) (.cells #[.int .i64 x] 3)
  have kb := Blk.new w 3 #[.int .i64 x]
  have ow := own_belowR h ba
  have hs1 : (w.alloc (.cells #[.int .i64 x] 3)).heap.size = w.heap.size + 1 := by simp
  obtain ⟨Wz, hWz⟩ : ∃ x', w.alloc (.cells #[.int .i64 x] 3) = x' := ⟨_, rfl⟩
  rw [hWz] at ba kb ow hs1 ⊢
  have hrd : Reads Wz Wz.heap.size 1 (some ⟨w.heap.size, 0, none⟩) 1 [.int .i64 x] := ⟨rfl, fun _ => ⟨_, rfl, kb.lt, fun j u hu => by rw [add_lit, kb.cell]; simpa using hu⟩⟩
  obtain ⟨i0, hi0, hz0', hz1, hz2⟩ := info_parts int_infoG
  obtain ⟨v11, w11, hrun, hown, hk11, hob⟩ := run_append_any (P := Try.prog) Wz B 27 27 3 i0 _ 1 8 Try.underlying27 hi0 hz0' hz1 hz2 (by rfl) (by omega) _ _ _ ow Wz.heap.size (some ⟨w.heap.size, 0, none⟩) 1 1 _ hrd (by intro u hu; rw [List.mem_singleton.1 hu]; rfl) (by unfold maxLen; omega) (by omega) (by omega)
  obtain ⟨A11, c11, rfl⟩ := own_form hown
  exact ⟨A11, c11, w11, hrun, by rw [ints_app]; exact hown, (ba.mono hB).grown hk11 (by omega) (fun g e => (own_block h e).1), (KeepsBut.of_below ba).trans (grown_keeps ow hk11)⟩
/-- A row of numbers that a cell holds, of one's own. -/
def OutI (w : World) (X B : Nat) (l : List Int) : Prop := B ≤ X ∧ ∃ A c, Blk w X 27 #[.slice A l.length c] ∧ w.ownsRow B 3 1 (.slice A l.length c) l.length (ints l)
theorem OutI.below {w w' : World} {X B : Nat} {l : List Int} (h : OutI w X B l) (hb : Below w.heap.size w w') : OutI w' X B l := by
  obtain ⟨h0, A, c, h1, h2⟩ := h
  exact ⟨h0, A, c, h1.below hb h1.lt, own_belowR h2 hb⟩
theorem OutI.keep {tys : List TypeId} {w w' : World} {X B : Nat} {l : List Int} (h : OutI w X B l) (k : KeepsBut tys w w') (h1 : ¬ 27 ∈ tys) (h2 : ¬ 3 ∈ tys) : OutI w' X B l := by
  obtain ⟨h0, A, c, hb, ho⟩ := h
  exact ⟨h0, A, c, KeepsBut.blk k hb h1, KeepsBut.own k ho h2⟩
set_option maxRecDepth 100000 in
set_option maxHeartbeats 2000000 in
theorem tell_c (X B : Nat) (l : List Int) (x : Int) (w : World) (h : OutI w X B l) (hl : l.length ≤ 100000) : Calls Try.prog 24 #[.int .i64 x, .pointer (some ⟨X, 0, none⟩)] w fun e w' => e = .returned (.tuple #[]) ∧ OutI w' X B (l ++ [x]) ∧ Below B w w' ∧ KeepsBut [27, 3] w w' := by
  obtain ⟨h0, A, c, hb, ho⟩ := h
  have hX := hb.lt
  have c0 : w.cell? ⟨X, 0, none⟩ = some (.slice A l.length c) := hb.cell 0
  obtain ⟨A1, c1, w1, hrun, hown, hbel, hk⟩ := push_int w B A c l.length l x rfl ho (by omega) hl
  have hb1 := KeepsBut.blk hk hb (by decide)
  have d0 : w1.cell? ⟨X, 0, none⟩ = some (.slice A l.length c) := hb1.cell 0
  have f0 := hb1.frozen 0
  have hb2 := hb1.set_ 0 (.slice A1 (l.length + 1) c1)
  have hk2 := keeps_set (p := ⟨X, 0, none⟩) hb1 (.slice A1 (l.length + 1) c1)
  have hbel2 := hbel.setCell (p := ⟨X, 0, none⟩) h0 (.slice A1 (l.length + 1) c1)
  have ho2 := KeepsBut.own hk2 hown (by decide)
  have hk3 := (hk.wide (t2 := [27, 3]) (by decide)).trans (hk2.wide (t2 := [27, 3]) (by decide))
  obtain ⟨w2, hw2⟩ : ∃ x, w1.setCell ⟨X, 0, none⟩ (.slice A1 (l.length + 1) c1) = x := ⟨_, rfl⟩
  rw [hw2] at hb2 hbel2 ho2 hk3
  have FIN := hide (show OutI w2 X B (l ++ [x]) ∧ Below B w w2 ∧ KeepsBut [27, 3] w w2 from ⟨⟨h0, A1, c1, by rw [List.length_append, List.length_singleton]; simpa using hb2, by rw [List.length_append, List.length_singleton]; exact ho2⟩, hbel2, hk3⟩)
  have RUN := hide hrun
  clear hb ho hrun hown hbel hk hb1 hb2 hk2 hbel2 ho2 hk3 h0 hX
  go_enter Try.func24, Try.ntmps24
  go_wp2_with (at_builtin; refine Lib.wpList_append_run _ rfl _ _ 27 27 rfl _ _ rfl rfl _ _ RUN.out ?_)
  go_end0
  exact ⟨rfl, FIN.out⟩
set_option maxRecDepth 100000 in
theorem so_c (T B Y : Nat) (rs : List Rq) (y : Nat) (w : World) (h : PR w T B rs) (hy : y < rs.length) (hc : w.cell? ⟨Y, 0, none⟩ = some (.pointer (some ⟨T, 0, none⟩))) : Calls Try.prog 23 #[.int .i64 y, .pointer (some ⟨Y, 0, none⟩)] w fun e w' => e = .returned (.bool (!rs[y].gone)) ∧ w = w' := by
  obtain ⟨h0, hrl, O, oc, hb, ho⟩ := h
  have c1 : w.cell? ⟨T, 1, none⟩ = some (.slice O rs.length oc) := hb.cell 1
  have hyI : (y : Int) < (rs.length : Int) := by omega
  obtain ⟨o, rfl, _, _, _, _, _, hOc⟩ := own_cell ho (by omega)
  obtain ⟨g, hg⟩ : ∃ g, rs[y].gone = g := ⟨_, rfl⟩
  have hgc : w.cell? ⟨o, y * 6 + 2, none⟩ = some (.bool g) := by rw [← hg]; exact hOc (y * 6 + 2) _ (rqCs_at rs y hy 2 (by omega))
  rw [hg]
  clear hb ho hOc hg
  go_enter Try.func23, Try.ntmps23
  go_wp2_with fail
  go_ret
  exact ⟨rfl, rfl⟩
/-- The numbers of those of the first i that are not taken. -/
def leftN (rs : List Rq) : Nat → List Int
  | 0 => []
  | i + 1 => leftN rs i ++ (if (rs.getD i default).gone then [] else [(i : Int)])
theorem leftN_len (rs : List Rq) : ∀ i, (leftN rs i).length ≤ i
  | 0 => Nat.le_refl _
  | i + 1 => by
    have := leftN_len rs i
    unfold leftN
    rw [List.length_append]
    split <;> simp <;> omega
set_option maxRecDepth 100000 in
set_option maxHeartbeats 4000000 in
theorem places_c (T B Y X C : Nat) (rs : List Rq) (w : World) (h : PR w T B rs) (hY : Blk w Y 25 #[.pointer (some ⟨T, 0, none⟩)]) (hX : OutI w X C []) : Calls Try.prog 22 #[.int .i64 rs.length, .func (.func 23) #[] #[.pointer (some ⟨Y, 0, none⟩)], .func (.func 24) #[] #[.pointer (some ⟨X, 0, none⟩)]] w fun e w' => e = .returned (.tuple #[]) ∧ OutI w' X C (leftN rs rs.length) ∧ Below C w w' ∧ KeepsBut [27, 3] w w' := by
  have H := hide h
  have HY := hide hY
  have HX := hide hX
  have hrl : rs.length ≤ 256 := h.2.1
  clear h hY hX
  go_enter Try.func22, Try.ntmps22
  go_wp2_with fail
  go_loopw [8] (fun vi wr => ∃ i : Nat, i ≤ rs.length ∧ vi = .int .i64 i ∧ Hid (OutI wr X C (leftN rs i)) ∧ Hid (Below C w wr) ∧ Hid (KeepsBut [27, 3] w wr)) (fun vi _ => rs.length - (RowKit.intOf vi).toNat)
  case atStart => exact ⟨0, Nat.zero_le _, rfl, HX, hide (Below.refl _ _), hide (KeepsBut.of_below (Below.refl _ _))⟩
  case round =>
    obtain ⟨i, hi, rfl, HXr, HB, HK⟩ := hrel
    rename World => wr
    by_cases hlt : i < rs.length
    rotate_left
    · have hltI : ¬ (i : Int) < (rs.length : Int) := by omega
      obtain rfl : i = rs.length := by omega
      go_wp2_with fail
      go_end0
      exact ⟨rfl, HXr.out, HB.out, HK.out⟩
    have hltI : (i : Int) < (rs.length : Int) := by omega
    have SC := hide (so_c T B Y rs i wr (H.out.keep HK.out (by decide) (by decide)) hlt ((KeepsBut.blk HK.out HY.out (by decide)).cell 0))
    have LN := hide (leftN_len rs i)
    have hstep : leftN rs (i + 1) = leftN rs i ++ (if (rs[i]).gone then [] else [(i : Int)]) := by rw [leftN, pick_rq hlt]
    have HST := hide hstep
    clear hstep
    cases hg : rs[i].gone with
    | true =>
      rw [hg] at SC
      have HXn : Hid (OutI wr X C (leftN rs (i + 1))) := hide (by rw [HST.out, hg]; simpa using HXr.out)
      clear hg
      go_wp2_with fail
      refine SC.out.mono ?_
      rintro e w' ⟨rfl, rfl⟩
      go_wp2_with fail
      go_roundw
      case rel => exact ⟨i + 1, by omega, by go_num, HXn, HB, HK⟩
      case measure => simp [RowKit.intOf] <;> omega
    | false =>
      rw [hg] at SC
      have TC := hide (tell_c X C (leftN rs i) (i : Int) wr HXr.out (by have := LN.out; omega))
      have HSE := hide (show leftN rs (i + 1) = leftN rs i ++ [(i : Int)] by rw [HST.out, hg]; rfl)
      clear hg
      go_wp2_with fail
      refine SC.out.mono ?_
      rintro e w' ⟨rfl, rfl⟩
      go_wp2_with fail
      refine TC.out.mono ?_
      rintro e w2 ⟨rfl, hx2, hb2, hk2⟩
      have HX2 : Hid (OutI w2 X C (leftN rs (i + 1))) := hide (by rw [HSE.out]; exact hx2)
      have HB2 := hide (HB.out.trans hb2)
      have HK2 := hide (HK.out.trans hk2)
      clear hx2 hb2 hk2
      go_wp2_with fail
      go_roundw
      case rel => exact ⟨i + 1, by omega, by go_num, HX2, HB2, HK2⟩
      case measure => simp [RowKit.intOf] <;> omega
set_option maxRecDepth 100000 in
set_option maxHeartbeats 4000000 in
theorem Left_c (T B : Nat) (rs : List Rq) (w : World) (h : PR w T B rs) : Calls Try.prog 14 #[.pointer (some ⟨T, 0, none⟩)] w fun e w' => ∃ A c, e = .returned (.slice A (leftN rs rs.length).length c) ∧ w'.ownsRow w.heap.size 3 1 (.slice A (leftN rs rs.length).length c) (leftN rs rs.length).length (ints (leftN rs rs.length)) ∧ Below w.heap.size w w' := by
  have hb1 := (Below.refl w.heap.size w).alloc (Nat.le_refl _) (.cells #[.pointer (some ⟨T, 0, none⟩)] 25)
  have y1 := Blk.new w 25 #[.pointer (some ⟨T, 0, none⟩)]
  have hs1 : (w.alloc (.cells #[.pointer (some ⟨T, 0, none⟩)] 25)).heap.size = w.heap.size + 1 := by simp
  obtain ⟨W1, hW1⟩ : ∃ x, w.alloc (.cells #[.pointer (some ⟨T, 0, none⟩)] 25) = x := ⟨_, rfl⟩
  rw [hW1] at hb1 y1 hs1
  have hb2 := hb1.alloc (by omega) (.cells #[.slice none 0 0] 27)
  have y2 := y1.alloc (.cells #[.slice none 0 0] 27)
  have x2 := Blk.new W1 27 #[.slice none 0 0]
  obtain ⟨W2, hW2⟩ : ∃ x, W1.alloc (.cells #[.slice none 0 0] 27) = x := ⟨_, rfl⟩
  rw [hW2] at hb2 y2 x2
  have hp2 := h.below hb2
  obtain ⟨h0, hrl, O, oc, hb, ho⟩ := id hp2
  have c0 : W2.cell? ⟨T, 0, none⟩ = some (.bool true) := hb.cell 0
  have c1 : W2.cell? ⟨T, 1, none⟩ = some (.slice O rs.length oc) := hb.cell 1
  have q0 : W2.cell? ⟨w.heap.size, 0, none⟩ = some (.pointer (some ⟨T, 0, none⟩)) := y2.cell 0
  have MC := hide (made_c T W2 c0)
  have hx : OutI W2 W1.heap.size w.heap.size [] := ⟨by omega, none, 0, x2, rfl, .inl ⟨rfl, rfl⟩⟩
  have PC := hide (places_c T B w.heap.size W1.heap.size w.heap.size rs W2 hp2 y2 hx)
  have HB2 := hide hb2
  clear hb1 y1 hs1 hb2 y2 x2 hx hp2 hb ho h h0 hrl
  go_enter Try.func14, Try.ntmps14
  go_wp2_with fail
  refine MC.out.mono ?_
  rintro e w' ⟨rfl, rfl⟩
  go_wp2_with fail
  refine PC.out.mono ?_
  rintro e w3 ⟨rfl, ⟨_, A, c, hx3, ho3⟩, hb3, _⟩
  have d0 : w3.cell? ⟨W1.heap.size, 0, none⟩ = some (.slice A (leftN rs rs.length).length c) := hx3.cell 0
  have FIN := hide (And.intro ho3 (HB2.out.trans hb3))
  clear hx3 ho3 hb3
  go_wp2_with fail
  go_ret
  exact ⟨A, c, rfl, FIN.out⟩
end Req
end Go.Proofs.Ytiggmieoldjhnaa
