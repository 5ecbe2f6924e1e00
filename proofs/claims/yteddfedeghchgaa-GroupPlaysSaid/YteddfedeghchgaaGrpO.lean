/- Add, where a group is added: the reference's table. -/
import Derived.Test.YteddfedeghchgaaRows
import Derived.Test.YteddfedeghchgaaGrpN
namespace Go.Proofs.Yteddfedeghchgaa
open Go Go.RowKit
set_option linter.unusedVariables false
set_option linter.unusedSimpArgs false
namespace Grp
/-- A row of ints at a block of its own. -/
def IAt (w : World) (x : Nat) (l : List Int) : Prop := ∃ cs, Blk w x 3 cs ∧ ∀ i, i < l.length → cs[i]? = some (.int .i64 (l.getD i 0))
theorem IAt.row {w : World} {x : Nat} {l : List Int} (h : IAt w x l) : IRow w (some ⟨x, 0, none⟩) l := by
  obtain ⟨cs, hb, hc⟩ := h
  exact ⟨x, cs, rfl, hb, hc⟩
theorem IAt.lt {w : World} {x : Nat} {l : List Int} (h : IAt w x l) : x < w.heap.size := by
  obtain ⟨cs, hb, hc⟩ := h
  exact hb.lt
theorem IAt.below {w w' : World} {x : Nat} {l : List Int} (h : IAt w x l) (hb : Below w.heap.size w w') : IAt w' x l := by
  obtain ⟨cs, h1, hc⟩ := h
  exact ⟨cs, h1.below hb h1.lt, hc⟩
theorem IAt.grown {w w' : World} {x : Nat} {l : List Int} {r : Option Nat} (h : IAt w x l) (hb : w.grownBy w' r) (hx : some x ≠ r) : IAt w' x l := by
  obtain ⟨cs, h1, hc⟩ := h
  exact ⟨cs, h1.grown hb hx, hc⟩
theorem IAt.of_own {w : World} {B c : Nat} {A : Option Addr} {l : List Int} (h : w.ownsRow B 3 1 (.slice A l.length c) l.length (ints l)) (h0 : 0 < l.length) : ∃ x, A = some ⟨x, 0, none⟩ ∧ B ≤ x ∧ IAt w x l := by
  rcases h.2 with ⟨_, h1⟩ | ⟨g, cap, cur, hv, hge, hh, hnc, _, hcs, htk⟩
  · omega
  · injection hv with hv
    subst hv
    refine ⟨g, rfl, hge, cur, hh, fun i hi => ?_⟩
    have e := ints_at hi
    rw [← htk, List.getElem?_take] at e
    split at e
    · simpa using e
    · cases e
theorem hgCs_app (a b : List He) : hgCs (a ++ b) = hgCs a ++ hgCs b := by simp [hgCs]
theorem gnC_app (a b : List He) : gnC (a ++ b) = gnC a ++ gnC b := by simp [gnC]
theorem group_info : (Try.prog.info? 24).map (fun i => (i.zero, i.size, i.bytes)) = some (some (.agg #[.string ⟨#[]⟩, .slice none 0 0]), 2, 40) := by kernel_rfl
theorem bool_info : (Try.prog.info? 4).map (fun i => (i.zero, i.size, i.bytes)) = some (some (.bool false), 1, 1) := by kernel_rfl
set_option maxRecDepth 100000 in
set_option maxHeartbeats 4000000 in
theorem AddB_yes (U B : Nat) (hs : List He) (key : ByteArray) (A : Option Addr) (cap : Nat) (l : List Int) (w : World) (ht : TabB w U B hs) (hBT : B ≤ U) (h : ∀ w', Below B w w' → NRow w' A l) (hm : mayL l) (hlt : hs.length < 32) :
    Calls Try.prog 8 #[.pointer (some ⟨U, 0, none⟩), .agg #[.string key, .slice A l.length cap]] w fun e w' => e = .returned (.tuple #[.int .i64 hs.length, .int .i64 0]) ∧ (∃ A' c', TabB w' U B (hs ++ [⟨key, A', c', l, false⟩])) ∧ Below B w w' ∧ KeepsBut [24, 4, 53] w w' := by
  obtain ⟨i0, hi0, hz0, hz1, hz2⟩ := info_parts group_info
  have HI := hide (And.intro hi0 (And.intro hz0 (And.intro hz1 hz2)))
  obtain ⟨j0, hj0, hy0, hy1, hy2⟩ := info_parts bool_info
  have HJ := hide (And.intro hj0 (And.intro hy0 (And.intro hy1 hy2)))
  clear hi0 hz0 hz1 hz2 hj0 hy0 hy1 hy2
  have hpos := ht.pos
  have hrows := ht.rows
  obtain ⟨vr, vs, hbT, ho, ho2⟩ := ht.tab
  obtain ⟨gr, cr, rfl, hgB, hgr⟩ := ho.form hpos
  obtain ⟨g2, c2, rfl, hgB2, hgr2⟩ := ho2.form hpos
  have hTlt := hbT.lt
  obtain ⟨csg, hbg⟩ := own_type ho
  obtain ⟨csg2, hbg2⟩ := own_type ho2
  have hne : gr ≠ U := fun e => Blk.ne_ hbg hbT (by decide) e
  have hne2 : g2 ≠ U := fun e => Blk.ne_ hbg2 hbT (by decide) e
  have hne3 : g2 ≠ gr := fun e => Blk.ne_ hbg2 hbg (by decide) e
  have OT : Hid (∀ w', Only [gr, g2, U] w w' → KeepsBut [24, 4, 53] w w') := hide fun w' ho' => ho'.keeps fun j c ty fz hj hc => by
    rcases List.mem_cons.1 hj with rfl | hj
    · rw [blk_type hbg hc]; exact List.mem_cons_self
    · rcases List.mem_cons.1 hj with rfl | hj
      · rw [blk_type hbg2 hc]; exact List.mem_cons_of_mem _ List.mem_cons_self
      · rcases List.mem_cons.1 hj with rfl | hj
        · rw [blk_type hbT hc]; exact List.mem_cons_of_mem _ (List.mem_cons_of_mem _ List.mem_cons_self)
        · cases hj
  have hlen := hm.2.1
  have hlen0 := hm.1
  -- the box
  have b1 := Blk.new w 24 #[.string key, .slice A l.length cap]
  have hb1 := (Below.refl w.heap.size w).alloc (Nat.le_refl _) (.cells #[.string key, .slice A l.length cap] 24)
  have hs1 : (w.alloc (.cells #[.string key, .slice A l.length cap] 24)).heap.size = w.heap.size + 1 := by simp
  obtain ⟨W1, hW1⟩ : ∃ W1, w.alloc (.cells #[.string key, .slice A l.length cap] 24) = W1 := ⟨_, rfl⟩
  rw [hW1] at b1 hb1 hs1
  have q0 : W1.cell? ⟨w.heap.size, 0, none⟩ = some (.string key) := b1.cell 0
  have q1 : W1.cell? ⟨w.heap.size, 1, none⟩ = some (.slice A l.length cap) := b1.cell 1
  have hBw : B ≤ w.heap.size := by omega
  have hbT1 := hbT.below hb1 hTlt
  have M := hide (May_b key A cap l W1 (h W1 (hb1.mono hBw)) (by omega))
  rw [decide_eq_true hm] at M
  have O := hide (fun w2 (hb2 : Below B w w2) => Copy_b key A cap l w2 (h w2 hb2) (by omega))
  have h32I : ¬ (32 : Int) ≤ (hs.length : Int) := by omega
  have HP := hide hpos
  have HLT := hide hlt
  have HB := hide hb1
  have B1 := hide b1
  have HT := hide hbT1
  have HO := hide (own_belowR ho hb1)
  have HOB := hide (own_belowR ho2 hb1)
  have HNUM := hide (And.intro hgB (And.intro hgr (And.intro hTlt (And.intro hne (And.intro hBw hBT)))))
  have HNUM2 := hide (And.intro hgB2 (And.intro hgr2 (And.intro hne2 hne3)))
  have HR := hide hrows
  have HM := hide hm
  have HL := hide (And.intro hlen0 hlen)
  have HS1 := hide hs1
  clear b1 hb1 ht hbT hbT1 h hpos ho ho2 hbg hbg2 hlt hm hlen hlen0 hrows hs1 hgB hgr hTlt hne hBw hBT hgB2 hgr2 hne2 hne3
  go_enter Try.func8, Try.ntmps8
  go_wp2_with fail
  refine M.out.mono ?_
  rintro e w2 ⟨rfl, hb2⟩
  have HB2 := hide (HB.out.trans (hb2.mono HB.out.size))
  have B2 := hide (B1.out.below hb2 B1.out.lt)
  have HT2 := hide (HT.out.below hb2 HT.out.lt)
  have HO2 := hide (own_belowR HO.out hb2)
  have HOB2 := hide (own_belowR HOB.out hb2)
  have HS2 := hide (show w.heap.size < w2.heap.size by have := hb2.size; have := HS1.out; omega)
  have uu : w2.cell? ⟨U, 0, none⟩ = some (.slice (some ⟨gr, 0, none⟩) hs.length cr) := HT2.out.cell 0
  clear hb2 q0 q1
  go_wp2_with fail
  have hne : gr ≠ U := HNUM.out.2.2.2.1
  have hgr : gr < w.heap.size := HNUM.out.2.1
  have hTlt : U < w.heap.size := HNUM.out.2.2.1
  have hBw : B ≤ w.heap.size := HNUM.out.2.2.2.2.1
  have hBg : B ≤ gr := HNUM.out.1
  have hs2 := HS2.out
  let K : World → World → Prop := fun a b => a.grownBy b (some gr)
  let R : Nat → Value → World → Prop := fun sl u w1 => match sl with
    | 15 | 16 | 17 | 18 | 24 | 25 => u = .pointer (some ⟨U, 0, none⟩)
    | 19 => u = .slice (some ⟨gr, 0, none⟩) hs.length cr
    | 20 => u = .agg #[.string key, .slice A l.length cap]
    | 21 => ∃ x c, u = .agg #[.string key, .slice (some ⟨x, 0, none⟩) l.length c] ∧ w.heap.size ≤ x ∧ IAt w1 x l
    | 22 => ∃ b x c, u = .slice (some ⟨b, 0, none⟩) 1 1 ∧ w.heap.size ≤ b ∧ Blk w1 b 24 #[.string key, .slice (some ⟨x, 0, none⟩) l.length c] ∧ w.heap.size ≤ x ∧ IAt w1 x l
    | _ => True
  let J : Option Value → World → Prop := fun b w1 => match b with
    | none => w1.ownsRow B 24 2 (.slice (some ⟨gr, 0, none⟩) hs.length cr) hs.length (hgCs hs)
    | some u => ∃ x c, w.heap.size ≤ x ∧ IAt w1 x l ∧ w1.ownsRow B 24 2 u (hs.length + 1) (hgCs hs ++ [.string key, .slice (some ⟨x, 0, none⟩) l.length c])
  have hKB : ∀ w w', Below w.heap.size w w' → K w w' := fun _ _ hb => grown_of_below hb
  have hJB : ∀ b w w', J b w → Below w.heap.size w w' → J b w' := fun b wa wb hj hb => by
    cases b with
    | none => exact own_belowR hj hb
    | some u =>
      obtain ⟨x, c, h1, h2, h3⟩ := hj
      exact ⟨x, c, h1, h2.below hb, own_belowR h3 hb⟩
  refine wp_region_relJ 11 23 R K J (by kernel_rfl) (by kernel_rfl) (by kernel_rfl) (by kernel_rfl) (by kernel_rfl) (fun _ _ _ h1 h2 => gtrans h1 h2) (hKB _ _ (Below.refl _ _).drew) HO2.out.drew ?mono ?step ?fin
  case mono =>
    intro sl u wa wb hu hk
    have far : ∀ {g : Nat}, w.heap.size ≤ g → some g ≠ some gr := fun hg e => by injection e with e; omega
    match sl with
    | 21 =>
      obtain ⟨g, c, h1, h2, h3⟩ := hu
      exact ⟨g, c, h1, h2, h3.grown hk (far h2)⟩
    | 22 =>
      obtain ⟨b, g, c, h1, h2, h3, h4, h5⟩ := hu
      exact ⟨b, g, c, h1, h2, h3.grown hk (far h2), h4, h5.grown hk (far h4)⟩
    | 0 | 1 | 2 | 3 | 4 | 5 | 6 | 7 | 8 | 9 | 10 | 11 | 12 | 13 | 14 | 15 | 16 | 17 | 18 | 19 | 20 | 23 | 24 | 25 | _ + 26 => exact hu
  case fin =>
    intro ff w9 hk hj hr
    obtain ⟨g, cg, hg, hgi, hown⟩ := hj
    have hown : w9.ownsRow B 24 2 (ff 23) (hs.length + 1) (hgCs hs ++ [.string key, .slice (some ⟨g, 0, none⟩) l.length cg]) := hown
    have e25 : ff 25 = .pointer (some ⟨U, 0, none⟩) := hr 25 (by decide)
    have hbT9 := HT2.out.grown hk (fun e => hne (by injection e with e; exact e.symm))
    have u0 := hbT9.cell 0
    have u0 : w9.cell? ⟨U, 0, none⟩ = some (.slice (some ⟨gr, 0, none⟩) hs.length cr) := u0
    have f0 := hbT9.frozen 0
    have hnT : (ff 23).ownBlock ≠ some U := own_blk_ne hown hbT9 (by decide)
    obtain ⟨a9, c9, e23⟩ := own_form hown
    rw [e23] at hown hnT
    have hgT : g ≠ U := by omega
    -- the other row
    have ogn9 : w9.ownsRow B 4 1 (.slice (some ⟨g2, 0, none⟩) hs.length c2) hs.length (gnC hs) := KeepsBut.own ((Only.of_grown (S := [gr]) hk List.mem_cons_self).keeps (tys := [24]) fun j c ty fz hj hc => by
      rw [List.mem_singleton.1 hj] at hc
      obtain ⟨cc, hcc⟩ := own_type HO2.out
      rw [blk_type hcc hc]; exact List.mem_cons_self) HOB2.out (by decide)
    have ogn := own_setCell ogn9 (p := ⟨U, 0, none⟩) (own_blk_ne ogn9 hbT9 (by decide)) (.slice a9 (hs.length + 1) c9)
    have own10 := own_setCell hown (p := ⟨U, 0, none⟩) hnT (.slice a9 (hs.length + 1) c9)
    have ON := ((Only.of_below (S := [gr, g2, U]) HB2.out).trans (Only.of_grown hk List.mem_cons_self)).trans (Only.set_ w9 (p := ⟨U, 0, none⟩) (.slice a9 (hs.length + 1) c9) (List.mem_cons_of_mem _ (List.mem_cons_of_mem _ List.mem_cons_self)))
    have BL := ((HB2.out.mono hBw).grown hk (by omega) (fun k e => by injection e with e; omega)).setCell (p := ⟨U, 0, none⟩) HNUM.out.2.2.2.2.2 (.slice a9 (hs.length + 1) c9)
    have T10 : Blk (w9.setCell ⟨U, 0, none⟩ (.slice a9 (hs.length + 1) c9)) U 53 #[.slice a9 (hs.length + 1) c9, .slice (some ⟨g2, 0, none⟩) hs.length c2] := by simpa using hbT9.set_ 0 (.slice a9 (hs.length + 1) c9)
    have I10 : IAt (w9.setCell ⟨U, 0, none⟩ (.slice a9 (hs.length + 1) c9)) g l := by
      obtain ⟨cs, h1, h2⟩ := hgi
      exact ⟨cs, h1.far (p := ⟨U, 0, none⟩) hgT _, h2⟩
    have HW : Hid (w.heap.size ≤ (w9.setCell ⟨U, 0, none⟩ (.slice a9 (hs.length + 1) c9)).heap.size) := hide ON.1
    have H10 := hide (And.intro ogn (And.intro own10 (And.intro ON (And.intro BL (And.intro T10 I10)))))
    clear hk hr hgi hown hbT9 hnT hgT hKB hJB hne hgr hTlt hBw hBg hs2 ogn9 ogn own10 ON BL T10 I10
    simp only [putAll, slotsOf, List.take, List.drop, List.filterMap_cons, List.filterMap_nil, List.foldl_cons, List.foldl_nil, Act.put, e23, e25]
    simp only [List.setIfInBounds_toArray, List.set_cons_succ, List.set_cons_zero]
    obtain ⟨w10, h10⟩ : ∃ x, w9.setCell ⟨U, 0, none⟩ (.slice a9 (hs.length + 1) c9) = x := ⟨_, rfl⟩
    rw [h10] at H10 HW
    obtain ⟨ogn, own10, ON, BL, T10, I10⟩ := H10.out
    have hn2 : g2 ≠ U := HNUM2.out.2.2.1
    have hg2 : g2 < w.heap.size := HNUM2.out.2.1
    have hg2B : B ≤ g2 := HNUM2.out.1
    have hw10 := HW.out
    have y1 : w10.cell? ⟨U, 1, none⟩ = some (.slice (some ⟨g2, 0, none⟩) hs.length c2) := T10.cell 1
    have hba := (Below.refl w10.heap.size w10).alloc (Nat.le_refl _) (.cells #[.bool false] 4)
    have hbb := Blk.new w10 4 #[.bool false]
    have own10 := own_belowR own10 hba
    have ogn := own_belowR ogn hba
    have I10 := I10.below hba
    have T10 := T10.below hba T10.lt
    have ON := ON.trans (Only.of_below hba)
    have BL := BL.alloc (by have := HNUM.out.2.2.2.2.1; omega) (.cells #[.bool false] 4)
    have hs11 : w.heap.size ≤ (w10.alloc (.cells #[.bool false] 4)).heap.size := by simp; omega
    obtain ⟨W, hW⟩ : ∃ W, w10.alloc (.cells #[.bool false] 4) = W := ⟨_, rfl⟩
    rw [hW] at hbb own10 ogn I10 T10 ON BL hs11
    have hrd : Reads W W.heap.size 1 (some ⟨w10.heap.size, 0, none⟩) 1 [.bool false] := ⟨rfl, fun _ => ⟨_, rfl, hbb.lt, fun j u hu => by rw [add_lit, hbb.cell]; simpa using hu⟩⟩
    obtain ⟨hi0, hz0, hz1, hz2⟩ := HJ.out
    obtain ⟨v11, w11, hrun, hown, hk, _⟩ := run_append_any (P := Try.prog) W B 51 51 4 j0 _ 1 1 Try.underlying51 hi0 hz0 hz1 hz2 (by rfl) (by omega) _ _ _ ogn W.heap.size (some ⟨w10.heap.size, 0, none⟩) 1 1 _ hrd (by intro u hu; simp only [List.mem_cons, List.not_mem_nil, or_false] at hu; rw [hu]; rfl) (by have := HLT.out; unfold maxLen; omega) (by have := HLT.out; omega) (by have := HNUM.out.2.2.2.2.1; omega)
    have hk : W.grownBy w11 (some g2) := hk
    have hbT11 := T10.grown hk (fun e => hn2 (by injection e with e; exact e.symm))
    have u1 : w11.cell? ⟨U, 1, none⟩ = some (.slice (some ⟨g2, 0, none⟩) hs.length c2) := hbT11.cell 1
    have f1 := hbT11.frozen 1
    have hnT : v11.ownBlock ≠ some U := own_blk_ne hown hbT11 (by decide)
    obtain ⟨a11, c11, rfl⟩ := own_form hown
    have T12 : Blk (w11.setCell ⟨U, 1, none⟩ (.slice a11 (hs.length + 1) c11)) U 53 #[.slice a9 (hs.length + 1) c9, .slice a11 (hs.length + 1) c11] := by simpa using hbT11.set_ 1 (.slice a11 (hs.length + 1) c11)
    have y0 : (w11.setCell ⟨U, 1, none⟩ (.slice a11 (hs.length + 1) c11)).cell? ⟨U, 0, none⟩ = some (.slice a9 (hs.length + 1) c9) := T12.cell 0
    have ON12 := (ON.trans (Only.of_grown hk (List.mem_cons_of_mem _ List.mem_cons_self))).trans (Only.set_ w11 (p := ⟨U, 1, none⟩) (.slice a11 (hs.length + 1) c11) (List.mem_cons_of_mem _ (List.mem_cons_of_mem _ List.mem_cons_self)))
    have KB := OT.out _ ON12
    have BL12 := (BL.grown hk (by have := HNUM.out.2.2.2.2.1; omega) (fun k e => by injection e with e; omega)).setCell (p := ⟨U, 1, none⟩) HNUM.out.2.2.2.2.2 (.slice a11 (hs.length + 1) c11)
    have kb10 : KeepsBut [4] W w11 := (Only.of_grown (S := [g2]) hk List.mem_cons_self).keeps fun j c ty fz hj hc => by
      rw [List.mem_singleton.1 hj] at hc
      obtain ⟨cc, hcc⟩ := own_type ogn
      rw [blk_type hcc hc]; exact List.mem_cons_self
    have own11 := KeepsBut.own kb10 own10 (by decide)
    have own12 := own_setCell own11 (p := ⟨U, 1, none⟩) (own_blk_ne own11 hbT11 (by decide)) (.slice a11 (hs.length + 1) c11)
    have kb12 : KeepsBut [4, 53] W (w11.setCell ⟨U, 1, none⟩ (.slice a11 (hs.length + 1) c11)) := ((Only.of_grown (S := [g2, U]) hk List.mem_cons_self).trans (Only.set_ w11 (p := ⟨U, 1, none⟩) (.slice a11 (hs.length + 1) c11) (List.mem_cons_of_mem _ List.mem_cons_self))).keeps fun j c ty fz hj hc => by
      rcases List.mem_cons.1 hj with rfl | hj
      · obtain ⟨cc, hcc⟩ := own_type ogn
        rw [blk_type hcc hc]; exact List.mem_cons_self
      · rw [List.mem_singleton.1 hj] at hc
        rw [blk_type T10 hc]; exact List.mem_cons_of_mem _ List.mem_cons_self
    have TB : TabB (w11.setCell ⟨U, 1, none⟩ (.slice a11 (hs.length + 1) c11)) U B (hs ++ [⟨key, some ⟨g, 0, none⟩, cg, l, false⟩]) := by
      refine ⟨by simp, by have := HLT.out; simp; omega, ⟨_, _, T12, ?_, ?_⟩, fun i hi => ?_⟩
      · rw [hgCs_app, List.length_append, List.length_singleton]
        exact own12
      · rw [gnC_app, List.length_append, List.length_singleton]
        exact own_setCell hown (p := ⟨U, 1, none⟩) hnT _
      · by_cases hi2 : i < hs.length
        · rw [List.getElem_append_left hi2]
          exact ⟨IRow.keeps (HR.out i hi2).1 KB (by decide), (HR.out i hi2).2⟩
        · have e : i = hs.length := by rw [List.length_append, List.length_singleton] at hi; omega
          subst e
          rw [List.getElem_append_right (Nat.le_refl _)]
          simp only [Nat.sub_self, List.getElem_cons_zero]
          exact ⟨IRow.keeps I10.row kb12 (by decide), HM.out⟩
    have FIN := hide (And.intro (⟨_, _, TB⟩ : ∃ A' c', TabB (w11.setCell ⟨U, 1, none⟩ (.slice a11 (hs.length + 1) c11)) U B (hs ++ [⟨key, A', c', l, false⟩])) (And.intro BL12 KB))
    clear hk hown hbT11 hnT own10 ogn ON BL I10 T10 T12 ON12 KB BL12 kb10 own11 own12 kb12 TB hn2 hg2 hg2B hw10 hbb hrd hba hs11 hi0 hz0 hz1 hz2
    go_wp2_with (at_builtin; refine Lib.wpList_append_run _ rfl (.tmp 30) (.tmp 31) _ _ rfl _ _ rfl rfl _ w11 hrun ?_)
    go_ret2
    refine ⟨?_, FIN.out.1, FIN.out.2.1, FIN.out.2.2⟩
    go_num
  case step =>
    intro o ho
    simp only [List.take, List.mem_cons, List.not_mem_nil, or_false] at ho
    rcases ho with rfl | rfl | rfl | rfl | rfl | rfl | rfl | rfl | rfl | rfl | rfl
    · refine ⟨fun h => absurd h (by decide), fun _ b => stepJ_of hKB hJB fun a w1 hk hj hsm hr => ?_⟩
      have e0 : a.tmps.getD 0 undef = .pointer (some ⟨U, 0, none⟩) := hsm 0 (by decide)
      rw [Array.getD_eq_getD_getElem?] at e0
      unfold Oper.wp
      simp only [execOp, Act.eval, Array.getD_eq_getD_getElem?, e0]
      go_simp
      exact ⟨_, rfl, rfl, Below.refl _ _⟩
    · refine ⟨fun h => absurd h (by decide), fun _ b => stepJ_of hKB hJB fun a w1 hk hj hsm hr => ?_⟩
      have e0 : a.tmps.getD 0 undef = .pointer (some ⟨U, 0, none⟩) := hsm 0 (by decide)
      rw [Array.getD_eq_getD_getElem?] at e0
      unfold Oper.wp
      simp only [execOp, Act.eval, Array.getD_eq_getD_getElem?, e0]
      go_simp
      exact ⟨_, rfl, rfl, Below.refl _ _⟩
    · refine ⟨fun h => absurd h (by decide), fun _ b => stepJ_of hKB hJB fun a w1 hk hj hsm hr => ?_⟩
      have e16 : a.tmps.getD 16 undef = .pointer (some ⟨U, 0, none⟩) := hr 16 (by decide) (by apply Array.mem_toList_iff.1; repeat (first | exact List.Mem.head _ | apply List.Mem.tail))
      rw [Array.getD_eq_getD_getElem?] at e16
      unfold Oper.wp
      simp only [execOp, Act.eval, Array.getD_eq_getD_getElem?, e16]
      go_simp
      exact ⟨_, rfl, rfl, Below.refl _ _⟩
    · refine ⟨fun h => absurd h (by decide), fun _ b => stepJ_of hKB hJB fun a w1 hk hj hsm hr => ?_⟩
      have e17 : a.tmps.getD 17 undef = .pointer (some ⟨U, 0, none⟩) := hr 17 (by decide) (by apply Array.mem_toList_iff.1; repeat (first | exact List.Mem.head _ | apply List.Mem.tail))
      rw [Array.getD_eq_getD_getElem?] at e17
      unfold Oper.wp
      simp only [execOp, Act.eval, Array.getD_eq_getD_getElem?, e17]
      go_simp
      exact ⟨_, rfl, rfl, Below.refl _ _⟩
    · refine ⟨fun h => absurd h (by decide), fun _ b => stepJ_of hKB hJB fun a w1 hk hj hsm hr => ?_⟩
      have e18 : a.tmps.getD 18 undef = .pointer (some ⟨U, 0, none⟩) := hr 18 (by decide) (by apply Array.mem_toList_iff.1; repeat (first | exact List.Mem.head _ | apply List.Mem.tail))
      have u0 : w1.cell? ⟨U, 0, none⟩ = some (.slice (some ⟨gr, 0, none⟩) hs.length cr) := (HT2.out.grown hk (fun e => hne (by injection e with e; exact e.symm))).cell 0
      rw [Array.getD_eq_getD_getElem?] at e18
      unfold Oper.wp
      simp only [execOp, Act.eval, Array.getD_eq_getD_getElem?, e18]
      go_simp
      exact ⟨_, rfl, rfl, Below.refl _ _⟩
    · refine ⟨fun h => absurd h (by decide), fun _ b => stepJ_of hKB hJB fun a w1 hk hj hsm hr => ?_⟩
      have e3 : a.tmps.getD 3 undef = .pointer (some ⟨w.heap.size, 0, none⟩) := hsm 3 (by decide)
      have b9 := B2.out.grown hk (fun e => by injection e with e; omega)
      have u0 : w1.cell? ⟨w.heap.size, 0, none⟩ = some (.string key) := b9.cell 0
      have u1 : w1.cell? ⟨w.heap.size, 1, none⟩ = some (.slice A l.length cap) := b9.cell 1
      rw [Array.getD_eq_getD_getElem?] at e3
      unfold Oper.wp
      simp only [execOp, Act.eval, Array.getD_eq_getD_getElem?, e3]
      go_simp
      exact ⟨_, rfl, rfl, Below.refl _ _⟩
    · refine ⟨fun h => absurd h (by decide), fun _ b => stepJ_of hKB hJB fun a w1 hk hj hsm hr => ?_⟩
      have e20 : a.tmps.getD 20 undef = .agg #[.string key, .slice A l.length cap] := hr 20 (by decide) (by apply Array.mem_toList_iff.1; repeat (first | exact List.Mem.head _ | apply List.Mem.tail))
      rw [Array.getD_eq_getD_getElem?] at e20
      unfold Oper.wp
      simp only [execOp, Act.eval, Array.getD_eq_getD_getElem?, e20]
      go_simp
      refine (O.out w1 ((HB2.out.mono hBw).grown hk (by omega) (fun k e => by injection e with e; omega))).mono ?_
      rintro e w' ⟨v, rfl, hv, hb'⟩
      obtain ⟨a', c', rfl⟩ := own_form hv
      obtain ⟨x, rfl, hx, hxi⟩ := IAt.of_own hv HL.out.1
      have hg' : w.heap.size ≤ x := by have := hk.size; omega
      exact ⟨_, rfl, ⟨x, c', rfl, hg', hxi⟩, hb'⟩
    · refine ⟨fun h => absurd h (by decide), fun _ b => stepJ_of hKB hJB fun a w1 hk hj hsm hr => ?_⟩
      have e21 : ∃ x c, a.tmps.getD 21 undef = .agg #[.string key, .slice (some ⟨x, 0, none⟩) l.length c] ∧ w.heap.size ≤ x ∧ IAt w1 x l := hr 21 (by decide) (by apply Array.mem_toList_iff.1; repeat (first | exact List.Mem.head _ | apply List.Mem.tail))
      obtain ⟨x, c, e21', hx, hxi⟩ := e21
      rw [Array.getD_eq_getD_getElem?] at e21'
      have hw1 : w.heap.size ≤ w1.heap.size := by have := hk.size; omega
      unfold Oper.wp
      simp only [execOp, Act.eval, Array.getD_eq_getD_getElem?, e21']
      go_simp
      exact ⟨_, rfl, ⟨w1.heap.size, x, c, rfl, hw1, Blk.new w1 24 _, hx, hxi.below ((Below.refl _ _).alloc (Nat.le_refl _) _)⟩, (Below.refl _ _).alloc (Nat.le_refl _) _⟩
    · refine ⟨fun _ a w1 hk hj hsm hr => ?_, fun h => absurd rfl h⟩
      have e19 : a.tmps.getD 19 undef = .slice (some ⟨gr, 0, none⟩) hs.length cr := hr 19 (by decide) (by apply Array.mem_toList_iff.1; repeat (first | exact List.Mem.head _ | apply List.Mem.tail))
      have e22 : ∃ b x c, a.tmps.getD 22 undef = .slice (some ⟨b, 0, none⟩) 1 1 ∧ w.heap.size ≤ b ∧ Blk w1 b 24 #[.string key, .slice (some ⟨x, 0, none⟩) l.length c] ∧ w.heap.size ≤ x ∧ IAt w1 x l := hr 22 (by decide) (by apply Array.mem_toList_iff.1; repeat (first | exact List.Mem.head _ | apply List.Mem.tail))
      obtain ⟨b, x, c, e22', hb, hbb, hx, hxi⟩ := e22
      have hj : w1.ownsRow B 24 2 (.slice (some ⟨gr, 0, none⟩) hs.length cr) hs.length (hgCs hs) := hj
      have hrd : Reads w1 w1.heap.size 2 (some ⟨b, 0, none⟩) 1 [.string key, .slice (some ⟨x, 0, none⟩) l.length c] := ⟨rfl, fun _ => ⟨_, rfl, hbb.lt, fun j u hu => by rw [add_lit, hbb.cell]; simpa using hu⟩⟩
      obtain ⟨hi0, hz0, hz1, hz2⟩ := HI.out
      obtain ⟨v', w'', hrun, hown', hgb, _⟩ := run_append_any (P := Try.prog) w1 B 50 50 24 i0 _ 2 40 Try.underlying50 hi0 hz0 hz1 hz2 (by rfl) (by omega) _ _ _ hj w1.heap.size (some ⟨b, 0, none⟩) 1 1 _ hrd (by intro u hu; simp only [List.mem_cons, List.not_mem_nil, or_false] at hu; rcases hu with rfl | rfl <;> rfl) (by have := HLT.out; unfold maxLen; omega) (by have := HLT.out; omega) (by have := hk.size; omega)
      have hfar : some x ≠ some gr := fun e => by injection e with e; omega
      exact Lib.wp_append_run w1 (.tmp 19) (.tmp 22) 50 50 rfl _ _ e19 e22' v' w'' hrun ⟨v', rfl, fun t ht => by cases ht; exact True.intro, hgb, x, c, hx, hxi.grown hgb hfar, hown'⟩
    · refine ⟨fun h => absurd h (by decide), fun _ b => stepJ_of hKB hJB fun a w1 hk hj hsm hr => ?_⟩
      have e15 : a.tmps.getD 15 undef = .pointer (some ⟨U, 0, none⟩) := hr 15 (by decide) (by apply Array.mem_toList_iff.1; repeat (first | exact List.Mem.head _ | apply List.Mem.tail))
      rw [Array.getD_eq_getD_getElem?] at e15
      unfold Oper.wp
      simp only [execOp, Act.eval, Array.getD_eq_getD_getElem?, e15]
      go_simp
      exact ⟨_, rfl, rfl, Below.refl _ _⟩
    · refine ⟨fun h => absurd h (by decide), fun _ b => stepJ_of hKB hJB fun a w1 hk hj hsm hr => ?_⟩
      have e24 : a.tmps.getD 24 undef = .pointer (some ⟨U, 0, none⟩) := hr 24 (by decide) (by apply Array.mem_toList_iff.1; repeat (first | exact List.Mem.head _ | apply List.Mem.tail))
      rw [Array.getD_eq_getD_getElem?] at e24
      unfold Oper.wp
      simp only [execOp, Act.eval, Array.getD_eq_getD_getElem?, e24]
      go_simp
      exact ⟨_, rfl, rfl, Below.refl _ _⟩
end Grp
end Go.Proofs.Yteddfedeghchgaa
