/- Add, where a group is added: the program's table. -/
import Derived.Test.YtgiibknfkphkgaaDoorRows
import Derived.Test.YtgiibknfkphkgaaDoorHanM
import Derived.Test.YtgiibknfkphkgaaDoorRelJ
import Derived.Test.YtgiibknfkphkgaaDoorOwn
namespace Go.Proofs.YtgiibknfkphkgaaDoor
open Go Go.RowKit
set_option linter.unusedVariables false
set_option linter.unusedSimpArgs false
section
variable {P : Program} {Q : Exit → Act → World → Prop} {R : Nat → Value → World → Prop} {K : World → World → Prop} {J : Option Value → World → Prop}
end
namespace Grp
theorem IRow.keeps {tys : List TypeId} {w w' : World} {A : Option Addr} {l : List Int} (h : IRow w A l) (k : KeepsBut tys w w') (h4 : ¬ 3 ∈ tys) : IRow w' A l := h.keep fun g cs hh => k.2 g _ _ _ hh h4
theorem handle_info : (Tryd.prog.info? 75).map (fun i => (i.zero, i.size, i.bytes)) = some (some (.agg #[.string ⟨#[]⟩, .slice none 0 0, .bool false]), 3, 48) := by kernel_rfl
set_option maxRecDepth 100000 in
set_option maxHeartbeats 4000000 in
theorem Add_yes (T B : Nat) (hs : List He) (key : ByteArray) (A : Option Addr) (cap : Nat) (l : List Int) (w : World) (ht : TabA w T B hs) (hBT : B ≤ T) (h : ∀ w', Below B w w' → NRow w' A l) (hm : mayL l) (hlt : hs.length < 32) :
    Calls Tryd.prog 22 #[.pointer (some ⟨T, 0, none⟩), .agg #[.string key, .slice A l.length cap]] w fun e w' => e = .returned (.tuple #[.int .i64 hs.length, .int .i64 0]) ∧ (∃ A', TabA w' T B (hs ++ [⟨key, A', l.length, l, false⟩])) ∧ Below B w w' ∧ KeepsBut [75, 78] w w' ∧ ∃ gr cr, w.cell? ⟨T, 0, none⟩ = some (.slice (some ⟨gr, 0, none⟩) hs.length cr) ∧ Only [gr, T] w w' := by
  obtain ⟨i0, hi0, hz0, hz1, hz2⟩ := info_parts handle_info
  have HI := hide (And.intro hi0 (And.intro hz0 (And.intro hz1 hz2)))
  have hpos := ht.pos
  have hrows := ht.rows
  obtain ⟨vr, hbT, ho⟩ := ht.tab
  obtain ⟨gr, cr, rfl, hgB, hgr⟩ := ho.form hpos
  have hTlt := hbT.lt
  obtain ⟨csg, hbg⟩ := own_type ho
  have hne : gr ≠ T := fun e => Blk.ne_ hbg hbT (by decide) e
  have hcT := hbT.cell 0
  have hcT : w.cell? ⟨T, 0, none⟩ = some (.slice (some ⟨gr, 0, none⟩) hs.length cr) := hcT
  have OT : Hid (∀ w', Only [gr, T] w w' → KeepsBut [75, 78] w w') := hide fun w' ho' => ho'.keeps fun j c ty fz hj hc => by
    rcases List.mem_cons.1 hj with rfl | hj
    · rw [blk_type hbg hc]; exact List.mem_cons_self
    · rcases List.mem_cons.1 hj with rfl | hj
      · rw [blk_type hbT hc]; exact List.mem_cons_of_mem _ List.mem_cons_self
      · cases hj
  have hlen := hm.2.1
  have hlen0 := hm.1
  -- the box
  have b1 := Blk.new w 24 #[.string key, .slice A l.length cap]
  have hb1 := (Below.refl w.heap.size w).alloc (Nat.le_refl _) (.cells #[.string key, .slice A l.length cap] 24)
  have hs1 : (w.alloc (.cells #[.string key, .slice A l.length cap] 24)).heap.size = w.heap.size + 1 := by simp
  obtain ⟨W1, hW1⟩ : ∃ W1, w.alloc (.cells #[.string key, .slice A l.length cap] 24) = W1 := ⟨_, rfl⟩
  rw [hW1] at b1 hb1 hs1
  have q0 : W1.cell? ⟨w.heap.size, 0, none⟩ = some (.string key) := b1.cell 0
  have q1 : W1.cell? ⟨w.heap.size, 1, none⟩ = some (.slice A l.length cap) := b1.cell 1
  have hBw : B ≤ w.heap.size := by omega
  have hbT1 := hbT.below hb1 hTlt
  have MN := hide (Many_a T (some ⟨gr, 0, none⟩) hs.length cr W1 (hbT1.cell 0))
  have MN2 := hide (fun w2 (hb2 : Below W1.heap.size W1 w2) => Many_a T (some ⟨gr, 0, none⟩) hs.length cr w2 ((hbT1.below hb2 hbT1.lt).cell 0))
  have M := hide (May_a key A cap l W1 (h W1 (hb1.mono hBw)) (by omega))
  rw [decide_eq_true hm] at M
  have O := hide (fun w2 (hb2 : Below B w w2) => own_a key A cap l w2 (h w2 hb2) (by omega) (by omega))
  have hn0 : ((hs.length : Int) == 0) = false := by
    have : ¬ (hs.length : Int) = 0 := by omega
    simpa using this
  have h32I : ¬ (32 : Int) ≤ (hs.length : Int) := by omega
  have HP := hide hpos
  have HLT := hide hlt
  have HB := hide hb1
  have B1 := hide b1
  have HT := hide hbT1
  have HO := hide (own_belowR ho hb1)
  have HNUM := hide (And.intro hgB (And.intro hgr (And.intro hTlt (And.intro hne (And.intro hBw hBT)))))
  have HR := hide hrows
  have HCT := hide hcT
  have HM := hide hm
  have HL := hide (And.intro hlen0 hlen)
  have HS1 := hide hs1
  clear b1 hb1 ht hbT hbT1 h hpos ho hbg hlt hm hlen hlen0 hrows hcT hs1 hgB hgr hTlt hne hBw hBT hi0 hz0 hz1 hz2
  go_enter Tryd.func22, Tryd.ntmps22
  go_wp2_with fail
  refine MN.out.mono ?_
  rintro e w1 ⟨rfl, rfl⟩
  go_wp2_with fail
  refine M.out.mono ?_
  rintro e w2 ⟨rfl, hb2⟩
  have MN3 := hide (MN2.out w2 hb2)
  have HB2 := hide (HB.out.trans (hb2.mono HB.out.size))
  have B2 := hide (B1.out.below hb2 B1.out.lt)
  have HT2 := hide (HT.out.below hb2 HT.out.lt)
  have HO2 := hide (own_belowR HO.out hb2)
  have HS2 := hide (show w.heap.size < w2.heap.size by have := hb2.size; have := HS1.out; omega)
  clear hb2 q0 q1
  go_wp2_with fail
  refine MN3.out.mono ?_
  rintro e w3 ⟨rfl, rfl⟩
  go_wp2_with fail
  have hne : gr ≠ T := HNUM.out.2.2.2.1
  have hgr : gr < w.heap.size := HNUM.out.2.1
  have hTlt : T < w.heap.size := HNUM.out.2.2.1
  have hBw : B ≤ w.heap.size := HNUM.out.2.2.2.2.1
  have hBg : B ≤ gr := HNUM.out.1
  have hs2 := HS2.out
  let K : World → World → Prop := fun a b => a.grownBy b (some gr)
  let R : Nat → Value → World → Prop := fun sl u w1 => match sl with
    | 15 | 16 | 17 | 18 | 25 | 26 => u = .pointer (some ⟨T, 0, none⟩)
    | 20 => u = .agg #[.string key, .slice A l.length cap]
    | 21 => ∃ g, u = .agg #[.string key, .slice (some ⟨g, 0, none⟩) l.length l.length] ∧ w.heap.size ≤ g ∧ Blk w1 g 3 (ints l).toArray
    | 22 => ∃ g, u = .agg #[.string key, .slice (some ⟨g, 0, none⟩) l.length l.length, .bool false] ∧ w.heap.size ≤ g ∧ Blk w1 g 3 (ints l).toArray
    | 23 => ∃ b g, u = .slice (some ⟨b, 0, none⟩) 1 1 ∧ w.heap.size ≤ b ∧ Blk w1 b 75 #[.string key, .slice (some ⟨g, 0, none⟩) l.length l.length, .bool false] ∧ w.heap.size ≤ g ∧ Blk w1 g 3 (ints l).toArray
    | 19 => u = .slice (some ⟨gr, 0, none⟩) hs.length cr
    | _ => True
  let J : Option Value → World → Prop := fun b w1 => match b with
    | none => w1.ownsRow B 75 3 (.slice (some ⟨gr, 0, none⟩) hs.length cr) hs.length (heCs hs)
    | some u => ∃ g, w.heap.size ≤ g ∧ Blk w1 g 3 (ints l).toArray ∧ w1.ownsRow B 75 3 u (hs.length + 1) (heCs hs ++ [.string key, .slice (some ⟨g, 0, none⟩) l.length l.length, .bool false])
  have hKB : ∀ w w', Below w.heap.size w w' → K w w' := fun _ _ hb => grown_of_below hb
  have hJB : ∀ b w w', J b w → Below w.heap.size w w' → J b w' := fun b wa wb hj hb => by
    cases b with
    | none => exact own_belowR hj hb
    | some u =>
      obtain ⟨g, h1, h2, h3⟩ := hj
      exact ⟨g, h1, h2.below hb h2.lt, own_belowR h3 hb⟩
  refine wp_region_relJ 12 24 R K J (by kernel_rfl) (by kernel_rfl) (by kernel_rfl) (by kernel_rfl) (by kernel_rfl) (fun _ _ _ h1 h2 => gtrans h1 h2) (hKB _ _ (Below.refl _ _).drew) HO2.out.drew ?mono ?step ?fin
  case mono =>
    intro sl u wa wb hu hk
    have far : ∀ {g : Nat}, w.heap.size ≤ g → some g ≠ some gr := fun hg e => by injection e with e; omega
    match sl with
    | 21 | 22 =>
      obtain ⟨g, h1, h2, h3⟩ := hu
      exact ⟨g, h1, h2, h3.grown hk (far h2)⟩
    | 23 =>
      obtain ⟨b, g, h1, h2, h3, h4, h5⟩ := hu
      exact ⟨b, g, h1, h2, h3.grown hk (far h2), h4, h5.grown hk (far h4)⟩
    | 0 | 1 | 2 | 3 | 4 | 5 | 6 | 7 | 8 | 9 | 10 | 11 | 12 | 13 | 14 | 15 | 16 | 17 | 18 | 19 | 20 | 24 | 25 | 26 | _ + 27 => exact hu
  case fin =>
    intro ff w9 hk hj hr
    obtain ⟨g, hg, hgi, hown⟩ := hj
    have hown : w9.ownsRow B 75 3 (ff 24) (hs.length + 1) (heCs hs ++ [.string key, .slice (some ⟨g, 0, none⟩) l.length l.length, .bool false]) := hown
    have e26 : ff 26 = .pointer (some ⟨T, 0, none⟩) := hr 26 (by decide)
    have hbT9 := HT2.out.grown hk (fun e => hne (by injection e with e; exact e.symm))
    have u0 := hbT9.cell 0
    have u0 : w9.cell? ⟨T, 0, none⟩ = some (.slice (some ⟨gr, 0, none⟩) hs.length cr) := u0
    have f0 := hbT9.frozen 0
    have hnT : (ff 24).ownBlock ≠ some T := own_blk_ne hown hbT9 (by decide)
    obtain ⟨a9, c9, e24⟩ := own_form hown
    rw [e24] at hown hnT
    have MN9 := hide (Many_a T a9 (hs.length + 1) c9 (w9.setCell ⟨T, 0, none⟩ (.slice a9 (hs.length + 1) c9)) ((hbT9.set_ 0 _).cell 0))
    have hgT : g ≠ T := by omega
    have ON : Only [gr, T] w (w9.setCell ⟨T, 0, none⟩ (.slice a9 (hs.length + 1) c9)) := ((Only.of_below HB2.out).trans (Only.of_grown hk List.mem_cons_self)).trans (Only.set_ w9 _ (List.mem_cons_of_mem _ List.mem_cons_self))
    have KB := OT.out _ ON
    have TA : TabA (w9.setCell ⟨T, 0, none⟩ (.slice a9 (hs.length + 1) c9)) T B (hs ++ [⟨key, some ⟨g, 0, none⟩, l.length, l, false⟩]) := by
      refine ⟨by simp, by have := HLT.out; simp; omega, ⟨_, by simpa using hbT9.set_ 0 (.slice a9 (hs.length + 1) c9), ?_⟩, fun i hi => ?_⟩
      · rw [heCs_app, List.length_append, List.length_singleton]
        exact own_setCell hown (p := ⟨T, 0, none⟩) hnT _
      · by_cases hi2 : i < hs.length
        · rw [List.getElem_append_left hi2]
          exact ⟨IRow.keeps (HR.out i hi2).1 KB (by decide), (HR.out i hi2).2⟩
        · have e : i = hs.length := by rw [List.length_append, List.length_singleton] at hi; omega
          subst e
          rw [List.getElem_append_right (Nat.le_refl _)]
          simp only [Nat.sub_self, List.getElem_cons_zero]
          exact ⟨IRow.of_blk (hgi.far (p := ⟨T, 0, none⟩) hgT _), HM.out⟩
    have BL : Below B w (w9.setCell ⟨T, 0, none⟩ (.slice a9 (hs.length + 1) c9)) := ((HB2.out.mono hBw).grown hk (by omega) (fun k e => by injection e with e; omega)).setCell (p := ⟨T, 0, none⟩) HNUM.out.2.2.2.2.2 _
    have FIN := hide (And.intro (⟨_, TA⟩ : ∃ A', TabA (w9.setCell ⟨T, 0, none⟩ (.slice a9 (hs.length + 1) c9)) T B (hs ++ [⟨key, A', l.length, l, false⟩])) (And.intro BL (And.intro KB ON)))
    clear hk hr hgi hown hbT9 hnT hgT ON KB TA BL hKB hJB hne hgr hTlt hBw hBg hs2
    simp only [putAll, slotsOf, List.take, List.drop, List.filterMap_cons, List.filterMap_nil, List.foldl_cons, List.foldl_nil, Act.put, e24, e26]
    simp only [List.setIfInBounds_toArray, List.set_cons_succ, List.set_cons_zero]
    go_wp2_with fail
    generalize w9.setCell ⟨T, 0, none⟩ (.slice a9 (hs.length + 1) c9) = W10 at *
    refine MN9.out.mono ?_
    rintro e w10 ⟨rfl, rfl⟩
    go_wp2_with fail
    go_ret2
    refine ⟨?_, FIN.out.1, FIN.out.2.1, FIN.out.2.2.1, gr, cr, HCT.out, FIN.out.2.2.2⟩
    go_num
  case step =>
    intro o ho
    simp only [List.take, List.mem_cons, List.not_mem_nil, or_false] at ho
    rcases ho with rfl | rfl | rfl | rfl | rfl | rfl | rfl | rfl | rfl | rfl | rfl | rfl
    · refine ⟨fun h => absurd h (by decide), fun _ b => stepJ_of hKB hJB fun a w1 hk hj hsm hr => ?_⟩
      have e0 : a.tmps.getD 0 undef = .pointer (some ⟨T, 0, none⟩) := hsm 0 (by decide)
      rw [Array.getD_eq_getD_getElem?] at e0
      unfold Oper.wp
      simp only [execOp, Act.eval, Array.getD_eq_getD_getElem?, e0]
      go_simp
      exact ⟨_, rfl, rfl, Below.refl _ _⟩
    · refine ⟨fun h => absurd h (by decide), fun _ b => stepJ_of hKB hJB fun a w1 hk hj hsm hr => ?_⟩
      have e0 : a.tmps.getD 0 undef = .pointer (some ⟨T, 0, none⟩) := hsm 0 (by decide)
      rw [Array.getD_eq_getD_getElem?] at e0
      unfold Oper.wp
      simp only [execOp, Act.eval, Array.getD_eq_getD_getElem?, e0]
      go_simp
      exact ⟨_, rfl, rfl, Below.refl _ _⟩
    · refine ⟨fun h => absurd h (by decide), fun _ b => stepJ_of hKB hJB fun a w1 hk hj hsm hr => ?_⟩
      have e16 : a.tmps.getD 16 undef = .pointer (some ⟨T, 0, none⟩) := hr 16 (by decide) (by apply Array.mem_toList_iff.1; repeat (first | exact List.Mem.head _ | apply List.Mem.tail))
      rw [Array.getD_eq_getD_getElem?] at e16
      unfold Oper.wp
      simp only [execOp, Act.eval, Array.getD_eq_getD_getElem?, e16]
      go_simp
      exact ⟨_, rfl, rfl, Below.refl _ _⟩
    · refine ⟨fun h => absurd h (by decide), fun _ b => stepJ_of hKB hJB fun a w1 hk hj hsm hr => ?_⟩
      have e17 : a.tmps.getD 17 undef = .pointer (some ⟨T, 0, none⟩) := hr 17 (by decide) (by apply Array.mem_toList_iff.1; repeat (first | exact List.Mem.head _ | apply List.Mem.tail))
      rw [Array.getD_eq_getD_getElem?] at e17
      unfold Oper.wp
      simp only [execOp, Act.eval, Array.getD_eq_getD_getElem?, e17]
      go_simp
      exact ⟨_, rfl, rfl, Below.refl _ _⟩
    · refine ⟨fun h => absurd h (by decide), fun _ b => stepJ_of hKB hJB fun a w1 hk hj hsm hr => ?_⟩
      have e18 : a.tmps.getD 18 undef = .pointer (some ⟨T, 0, none⟩) := hr 18 (by decide) (by apply Array.mem_toList_iff.1; repeat (first | exact List.Mem.head _ | apply List.Mem.tail))
      have u0 : w1.cell? ⟨T, 0, none⟩ = some (.slice (some ⟨gr, 0, none⟩) hs.length cr) := (HT2.out.grown hk (fun e => hne (by injection e with e; exact e.symm))).cell 0
      rw [Array.getD_eq_getD_getElem?] at e18
      unfold Oper.wp
      simp only [execOp, Act.eval, Array.getD_eq_getD_getElem?, e18]
      go_simp
      exact ⟨_, rfl, rfl, Below.refl _ _⟩
    · refine ⟨fun h => absurd h (by decide), fun _ b => stepJ_of hKB hJB fun a w1 hk hj hsm hr => ?_⟩
      have e3 : a.tmps.getD 3 undef = .pointer (some ⟨w.heap.size, 0, none⟩) := hsm 3 (by decide)
      have b9 := B2.out.grown hk (fun e => by injection e with e; omega)
      have u0 : w1.cell? ⟨w.heap.size, 0, none⟩ = some (.string key) := b9.cell 0
      have u1 : w1.cell? ⟨w.heap.size, 1, none⟩ = some (.slice A l.length cap) := b9.cell 1
      rw [Array.getD_eq_getD_getElem?] at e3
      unfold Oper.wp
      simp only [execOp, Act.eval, Array.getD_eq_getD_getElem?, e3]
      go_simp
      exact ⟨_, rfl, rfl, Below.refl _ _⟩
    · refine ⟨fun h => absurd h (by decide), fun _ b => stepJ_of hKB hJB fun a w1 hk hj hsm hr => ?_⟩
      have e20 : a.tmps.getD 20 undef = .agg #[.string key, .slice A l.length cap] := hr 20 (by decide) (by apply Array.mem_toList_iff.1; repeat (first | exact List.Mem.head _ | apply List.Mem.tail))
      rw [Array.getD_eq_getD_getElem?] at e20
      unfold Oper.wp
      simp only [execOp, Act.eval, Array.getD_eq_getD_getElem?, e20]
      go_simp
      refine (O.out w1 ((HB2.out.mono hBw).grown hk (by omega) (fun k e => by injection e with e; omega))).mono ?_
      rintro e w' ⟨g, rfl, hg, hbk, hb'⟩
      have hg' : w.heap.size ≤ g := by have := hk.size; omega
      exact ⟨_, rfl, ⟨g, rfl, hg', hbk⟩, hb'⟩
    · refine ⟨fun h => absurd h (by decide), fun _ b => stepJ_of hKB hJB fun a w1 hk hj hsm hr => ?_⟩
      have e21 : ∃ g, a.tmps.getD 21 undef = .agg #[.string key, .slice (some ⟨g, 0, none⟩) l.length l.length] ∧ w.heap.size ≤ g ∧ Blk w1 g 3 (ints l).toArray := hr 21 (by decide) (by apply Array.mem_toList_iff.1; repeat (first | exact List.Mem.head _ | apply List.Mem.tail))
      obtain ⟨g, e21', hg, hbg⟩ := e21
      rw [Array.getD_eq_getD_getElem?] at e21'
      unfold Oper.wp
      simp only [execOp, Act.eval, Array.getD_eq_getD_getElem?, e21']
      go_simp
      exact ⟨_, rfl, ⟨g, rfl, hg, hbg⟩, Below.refl _ _⟩
    · refine ⟨fun h => absurd h (by decide), fun _ b => stepJ_of hKB hJB fun a w1 hk hj hsm hr => ?_⟩
      have e22 : ∃ g, a.tmps.getD 22 undef = .agg #[.string key, .slice (some ⟨g, 0, none⟩) l.length l.length, .bool false] ∧ w.heap.size ≤ g ∧ Blk w1 g 3 (ints l).toArray := hr 22 (by decide) (by apply Array.mem_toList_iff.1; repeat (first | exact List.Mem.head _ | apply List.Mem.tail))
      obtain ⟨g, e22', hg, hbg⟩ := e22
      rw [Array.getD_eq_getD_getElem?] at e22'
      have hw1 : w.heap.size ≤ w1.heap.size := by have := hk.size; omega
      unfold Oper.wp
      simp only [execOp, Act.eval, Array.getD_eq_getD_getElem?, e22']
      go_simp
      exact ⟨_, rfl, ⟨w1.heap.size, g, rfl, hw1, Blk.new w1 75 _, hg, hbg.alloc _⟩, (Below.refl _ _).alloc (Nat.le_refl _) _⟩
    · refine ⟨fun _ a w1 hk hj hsm hr => ?_, fun h => absurd rfl h⟩
      have e19 : a.tmps.getD 19 undef = .slice (some ⟨gr, 0, none⟩) hs.length cr := hr 19 (by decide) (by apply Array.mem_toList_iff.1; repeat (first | exact List.Mem.head _ | apply List.Mem.tail))
      have e23 : ∃ b g, a.tmps.getD 23 undef = .slice (some ⟨b, 0, none⟩) 1 1 ∧ w.heap.size ≤ b ∧ Blk w1 b 75 #[.string key, .slice (some ⟨g, 0, none⟩) l.length l.length, .bool false] ∧ w.heap.size ≤ g ∧ Blk w1 g 3 (ints l).toArray := hr 23 (by decide) (by apply Array.mem_toList_iff.1; repeat (first | exact List.Mem.head _ | apply List.Mem.tail))
      obtain ⟨b, g, e23', hb, hbb, hg, hbg⟩ := e23
      have hj : w1.ownsRow B 75 3 (.slice (some ⟨gr, 0, none⟩) hs.length cr) hs.length (heCs hs) := hj
      have hrd : Reads w1 w1.heap.size 3 (some ⟨b, 0, none⟩) 1 [.string key, .slice (some ⟨g, 0, none⟩) l.length l.length, .bool false] := ⟨rfl, fun _ => ⟨_, rfl, hbb.lt, fun j u hu => by rw [add_lit, hbb.cell]; simpa using hu⟩⟩
      obtain ⟨hi0, hz0, hz1, hz2⟩ := HI.out
      obtain ⟨v', w'', hrun, hown', hgb, _⟩ := run_append_any (P := Tryd.prog) w1 B 76 76 75 i0 _ 3 48 Tryd.underlying76 hi0 hz0 hz1 hz2 (by rfl) (by omega) _ _ _ hj w1.heap.size (some ⟨b, 0, none⟩) 1 1 _ hrd (by intro u hu; simp only [List.mem_cons, List.not_mem_nil, or_false] at hu; rcases hu with rfl | rfl | rfl <;> rfl) (by have := HLT.out; unfold maxLen; omega) (by have := HLT.out; omega) (by have := hk.size; omega)
      have hfar : some g ≠ some gr := fun e => by injection e with e; omega
      exact Lib.wp_append_run w1 (.tmp 19) (.tmp 23) 76 76 rfl _ _ e19 e23' v' w'' hrun ⟨v', rfl, fun t ht => by cases ht; exact True.intro, hgb, g, hg, hbg.grown hgb hfar, hown'⟩
    · refine ⟨fun h => absurd h (by decide), fun _ b => stepJ_of hKB hJB fun a w1 hk hj hsm hr => ?_⟩
      have e15 : a.tmps.getD 15 undef = .pointer (some ⟨T, 0, none⟩) := hr 15 (by decide) (by apply Array.mem_toList_iff.1; repeat (first | exact List.Mem.head _ | apply List.Mem.tail))
      rw [Array.getD_eq_getD_getElem?] at e15
      unfold Oper.wp
      simp only [execOp, Act.eval, Array.getD_eq_getD_getElem?, e15]
      go_simp
      exact ⟨_, rfl, rfl, Below.refl _ _⟩
    · refine ⟨fun h => absurd h (by decide), fun _ b => stepJ_of hKB hJB fun a w1 hk hj hsm hr => ?_⟩
      have e25 : a.tmps.getD 25 undef = .pointer (some ⟨T, 0, none⟩) := hr 25 (by decide) (by apply Array.mem_toList_iff.1; repeat (first | exact List.Mem.head _ | apply List.Mem.tail))
      rw [Array.getD_eq_getD_getElem?] at e25
      unfold Oper.wp
      simp only [execOp, Act.eval, Array.getD_eq_getD_getElem?, e25]
      go_simp
      exact ⟨_, rfl, rfl, Below.refl _ _⟩
end Grp
end Go.Proofs.YtgiibknfkphkgaaDoor
