/- The program's Push. -/
import Derived.Test.YtiojpokfcejhcaaDoorRows
import Derived.Test.YtiojpokfcejhcaaDoorPathC
namespace Go.Proofs.YtiojpokfcejhcaaDoor
open Go Go.RowKit
set_option linter.unusedVariables false
set_option linter.unusedSimpArgs false
theorem own_block {w : World} {B size n : Nat} {e : TypeId} {v : Value} {xs : List Value} (h : w.ownsRow B e size v n xs) {g : Nat} (hg : v.ownBlock = some g) : B ≤ g ∧ g < w.heap.size ∧ ∃ cs, Blk w g e cs := by
  rcases h.2 with ⟨rfl, _⟩ | ⟨g', cap, cur, rfl, hge, hh, _⟩
  · simp [Value.ownBlock] at hg
  · obtain rfl : g' = g := by simpa [Value.ownBlock] using hg
    exact ⟨hge, (Array.getElem?_eq_some_iff.1 hh).1, cur, hh⟩
namespace Pth
/-- A level, as the program keeps it. -/
structure Lv where
  r : Int
  c : Int
  A : Option Addr
  cap : Nat
  vs : List Ch
  off : Bool
  at_ : Nat
instance : Inhabited Lv := ⟨⟨0, 0, none, 0, [], false, 0⟩⟩
def lvC (x : Lv) : List Value := [.int .i64 x.r, .int .i64 x.c, .slice x.A x.vs.length x.cap, .bool x.off, .int .i64 x.at_]
def lvCs (l : List Lv) : List Value := l.flatMap lvC
theorem lvCs_app (a b : List Lv) : lvCs (a ++ b) = lvCs a ++ lvCs b := by simp [lvCs]
theorem level_info : (Tryd.prog.info? 59).map (fun i => (i.zero, i.size, i.bytes)) = some (some (.agg #[.int .i64 0, .int .i64 0, .slice none 0 0, .bool false, .int .i64 0]), 5, 56) := by kernel_rfl
/-- Values that lie in a block of their own. -/
def VRow (w : World) (A : Option Addr) (l : List Ch) : Prop := ∃ g cs, A = some ⟨g, 0, none⟩ ∧ Blk w g 47 cs ∧ (∀ i (h : i < l.length), l[i].ok) ∧ cs.toList.take (l.length * 5) = chs l
theorem VRow.keep {w w' : World} {A : Option Addr} {l : List Ch} (h : VRow w A l) (hk : ∀ g, A = some ⟨g, 0, none⟩ → w'.heap[g]? = w.heap[g]?) : VRow w' A l := by
  obtain ⟨g, cs, rfl, hb, r⟩ := h
  exact ⟨g, cs, rfl, (hk g rfl).trans hb, r⟩
theorem VRow.lt {w : World} {A : Option Addr} {l : List Ch} (h : VRow w A l) {g : Nat} (hg : A = some ⟨g, 0, none⟩) : g < w.heap.size := by
  obtain ⟨g', cs, rfl, hb, _⟩ := h
  injection hg with hg
  injection hg with hg
  subst hg
  exact hb.lt
theorem VRow.of_own {w : World} {B : Nat} {v : Value} {l : List Ch} (h : w.ownsRow B 47 5 v l.length (chs l)) (h0 : 0 < l.length) (hok : ∀ i (h : i < l.length), l[i].ok) : ∃ g c, v = .slice (some ⟨g, 0, none⟩) l.length c ∧ B ≤ g ∧ VRow w (some ⟨g, 0, none⟩) l := by
  rcases h.2 with ⟨_, h1⟩ | ⟨g, cap, cur, rfl, hge, hh, hnc, _, hcs, htk⟩
  · omega
  · exact ⟨g, cap, rfl, hge, g, cur, rfl, hh, hok, htk⟩
/-- The program's stack at block T, its levels at a block from B on. -/
structure StA (w : World) (T B : Nat) (ls : List Lv) : Prop where
  le : ls.length ≤ 2000
  tab : ∃ v, Blk w T 54 #[.bool true, v] ∧ w.ownsRow B 59 5 v ls.length (lvCs ls)
  rows : ∀ i (h : i < ls.length), VRow w ls[i].A ls[i].vs
theorem StA.below {w w' : World} {T B : Nat} {ls : List Lv} (h : StA w T B ls) (hb : Below w.heap.size w w') : StA w' T B ls := by
  refine ⟨h.le, ?_, fun i hi => (h.rows i hi).keep fun g hg => hb.block g ((h.rows i hi).lt hg)⟩
  obtain ⟨v, h1, h2⟩ := h.tab
  exact ⟨v, h1.below hb h1.lt, own_belowR h2 hb⟩
theorem StA.lt {w : World} {T B : Nat} {ls : List Lv} (h : StA w T B ls) : T < w.heap.size := by
  obtain ⟨v, h1, h2⟩ := h.tab
  exact h1.lt
set_option maxRecDepth 100000 in
set_option maxHeartbeats 4000000 in
theorem depth_a (T B : Nat) (ls : List Lv) (w : World) (ht : StA w T B ls) : Calls Tryd.prog 12 #[.pointer (some ⟨T, 0, none⟩)] w fun e w' => e = .returned (.int .i64 ls.length) ∧ w = w' := by
  obtain ⟨v, hb, ho⟩ := ht.tab
  obtain ⟨a, c, rfl⟩ := own_form ho
  have q0 : w.cell? ⟨T, 0, none⟩ = some (.bool true) := hb.cell 0
  have q1 : w.cell? ⟨T, 1, none⟩ = some (.slice a ls.length c) := hb.cell 1
  have M := hide (made_a T true w q0)
  clear ht hb ho
  go_enter Tryd.func12, Tryd.ntmps12
  go_wp2_with fail
  refine M.out.mono ?_
  rintro e w1 ⟨rfl, rfl⟩
  go_wp2_with fail
  go_ret
  exact ⟨rfl, rfl⟩
/-- What Push answers where it pushes nothing. -/
def pushE (r c : Int) (vs : List Ch) : Int := if mayV r c vs then 4 else 2
set_option maxRecDepth 100000 in
set_option maxHeartbeats 4000000 in
theorem Push_no (T B : Nat) (ls : List Lv) (r c : Int) (A : Option Addr) (cap : Nat) (vs : List Ch) (off : Bool) (w : World) (ht : StA w T B ls) (h : CRow w A vs) (hl : vs.length ≤ 1000) (hno : ¬ mayV r c vs ∨ ls.length = 2000) :
    Calls Tryd.prog 10 #[.pointer (some ⟨T, 0, none⟩), .agg #[.int .i64 r, .int .i64 c, .slice A vs.length cap], .bool off] w fun e w' => e = .returned (.int .i64 (pushE r c vs)) ∧ Below w.heap.size w w' := by
  have b1 := Blk.new w 36 #[.int .i64 r, .int .i64 c, .slice A vs.length cap]
  have hb1 := (Below.refl w.heap.size w).alloc (Nat.le_refl _) (.cells #[.int .i64 r, .int .i64 c, .slice A vs.length cap] 36)
  obtain ⟨W1, hW1⟩ : ∃ W1, w.alloc (.cells #[.int .i64 r, .int .i64 c, .slice A vs.length cap] 36) = W1 := ⟨_, rfl⟩
  rw [hW1] at b1 hb1
  have q0 : W1.cell? ⟨w.heap.size, 0, none⟩ = some (.int .i64 r) := b1.cell 0
  have q1 : W1.cell? ⟨w.heap.size, 1, none⟩ = some (.int .i64 c) := b1.cell 1
  have q2 : W1.cell? ⟨w.heap.size, 2, none⟩ = some (.slice A vs.length cap) := b1.cell 2
  obtain ⟨v, hbT, ho⟩ := (ht.below hb1).tab
  obtain ⟨av, cv, rfl⟩ := own_form ho
  have MD := hide (made_a T true W1 (hbT.cell 0))
  have MY := hide (may_a r c A cap vs W1 (h.below hb1) hl)
  have HT := hide hbT
  have HB := hide hb1
  clear b1 hb1 ht hbT ho h
  by_cases hm : mayV r c vs
  · have hf : ls.length = 2000 := hno.resolve_left fun hn => hn hm
    have E : pushE r c vs = 4 := by unfold pushE; rw [if_pos hm]
    have hI : (2000 : Int) ≤ (ls.length : Int) := by omega
    rw [E]
    rw [decide_eq_true hm] at MY
    have HM := hide hm
    have HF := hide hf
    clear E hm hf hno
    go_enter Tryd.func10, Tryd.ntmps10
    go_wp2_with fail
    refine MD.out.mono ?_
    rintro e w1 ⟨rfl, rfl⟩
    go_wp2_with fail
    refine MY.out.mono ?_
    rintro e w2 ⟨rfl, hb2⟩
    have u1 : w2.cell? ⟨T, 1, none⟩ = some (.slice av ls.length cv) := (HT.out.below hb2 HT.out.lt).cell 1
    have HB2 := hide (HB.out.trans (hb2.mono HB.out.size))
    clear hb2
    go_wp2_with fail
    go_ret
    exact ⟨rfl, HB2.out⟩
  · have E : pushE r c vs = 2 := by unfold pushE; rw [if_neg hm]
    rw [E]
    rw [decide_eq_false hm] at MY
    have HM := hide hm
    clear E hm hno
    go_enter Tryd.func10, Tryd.ntmps10
    go_wp2_with fail
    refine MD.out.mono ?_
    rintro e w1 ⟨rfl, rfl⟩
    go_wp2_with fail
    refine MY.out.mono ?_
    rintro e w2 ⟨rfl, hb2⟩
    have HB2 := hide (HB.out.trans (hb2.mono HB.out.size))
    clear hb2
    go_wp2_with fail
    go_ret
    exact ⟨rfl, HB2.out⟩
set_option maxRecDepth 100000 in
set_option maxHeartbeats 8000000 in
theorem Push_yes (T B : Nat) (ls : List Lv) (r c : Int) (A : Option Addr) (cap : Nat) (vs : List Ch) (off : Bool) (w : World) (ht : StA w T B ls) (hBT : B ≤ T) (h : CRow w A vs) (hl : vs.length ≤ 1000) (hm : mayV r c vs) (hlt : ls.length < 2000) :
    Calls Tryd.prog 10 #[.pointer (some ⟨T, 0, none⟩), .agg #[.int .i64 r, .int .i64 c, .slice A vs.length cap], .bool off] w fun e w' => e = .returned (.int .i64 0) ∧ (∃ g cap', w.heap.size ≤ g ∧ StA w' T B (ls ++ [⟨r, c, some ⟨g, 0, none⟩, cap', vs, off, 0⟩])) ∧ Below B w w' ∧ KeepsBut [59, 54] w w' ∧ ∃ v, w.cell? ⟨T, 1, none⟩ = some v ∧ Only (T :: v.ownBlock.toList) w w' := by
  obtain ⟨i0, hi0, hz0, hz1, hz2⟩ := info_parts level_info
  have HI := hide (And.intro hi0 (And.intro hz0 (And.intro hz1 hz2)))
  have hrows := ht.rows
  obtain ⟨vr, hbT, ho⟩ := ht.tab
  have hTlt := hbT.lt
  have hnT0 : vr.ownBlock ≠ some T := own_blk_ne ho hbT (by decide)
  have hcT : w.cell? ⟨T, 1, none⟩ = some vr := hbT.cell 1
  have hbl : ∀ g, vr.ownBlock = some g → B ≤ g ∧ g < w.heap.size := fun g hg => ⟨(own_block ho hg).1, (own_block ho hg).2.1⟩
  have OT : Hid (∀ w', Only (T :: vr.ownBlock.toList) w w' → KeepsBut [59, 54] w w') := hide fun w' ho' => ho'.keeps fun j cc ty fz hj hc => by
    rcases List.mem_cons.1 hj with rfl | hj
    · rw [blk_type hbT hc]; exact List.mem_cons_of_mem _ List.mem_cons_self
    · obtain ⟨_, _, cs, hcs⟩ := own_block ho (Option.mem_toList.1 hj)
      rw [blk_type hcs hc]; exact List.mem_cons_self
  have hvok : ∀ i (hi : i < vs.length), vs[i].ok := fun i hi => by
    obtain ⟨a, _, _, hc⟩ := h.2 (by omega)
    exact (hc i hi).1
  -- the box
  have b1 := Blk.new w 36 #[.int .i64 r, .int .i64 c, .slice A vs.length cap]
  have hb1 := (Below.refl w.heap.size w).alloc (Nat.le_refl _) (.cells #[.int .i64 r, .int .i64 c, .slice A vs.length cap] 36)
  have hs1 : (w.alloc (.cells #[.int .i64 r, .int .i64 c, .slice A vs.length cap] 36)).heap.size = w.heap.size + 1 := by simp
  obtain ⟨W1, hW1⟩ : ∃ W1, w.alloc (.cells #[.int .i64 r, .int .i64 c, .slice A vs.length cap] 36) = W1 := ⟨_, rfl⟩
  rw [hW1] at b1 hb1 hs1
  have q0 : W1.cell? ⟨w.heap.size, 0, none⟩ = some (.int .i64 r) := b1.cell 0
  have q1 : W1.cell? ⟨w.heap.size, 1, none⟩ = some (.int .i64 c) := b1.cell 1
  have q2 : W1.cell? ⟨w.heap.size, 2, none⟩ = some (.slice A vs.length cap) := b1.cell 2
  have hbT1 := hbT.below hb1 hTlt
  obtain ⟨av, cv, rfl⟩ := own_form ho
  have MD := hide (made_a T true W1 (hbT1.cell 0))
  have MY := hide (may_a r c A cap vs W1 (h.below hb1) hl)
  rw [decide_eq_true hm] at MY
  have CL := hide (fun w2 (hb2 : Below W1.heap.size W1 w2) => Clone_a A cap vs w2 ((h.below hb1).below hb2) (by omega))
  have hI : ¬ (2000 : Int) ≤ (ls.length : Int) := by omega
  have HB := hide hb1
  have B1 := hide b1
  have HT := hide hbT1
  have HO := hide (own_belowR ho hb1)
  have HN := hide (And.intro hnT0 (And.intro hTlt (And.intro hbl (And.intro hBT hs1))))
  have HR := hide hrows
  have HCT := hide hcT
  have HM := hide hm
  have HLT := hide hlt
  have HV := hide hvok
  clear b1 hb1 ht hbT hbT1 ho h hm hlt hrows hcT hnT0 hTlt hbl hBT hs1 hi0 hz0 hz1 hz2 hvok
  go_enter Tryd.func10, Tryd.ntmps10
  go_wp2_with fail
  refine MD.out.mono ?_
  rintro e w1 ⟨rfl, rfl⟩
  go_wp2_with fail
  refine MY.out.mono ?_
  rintro e w2 ⟨rfl, hb2⟩
  have bx2 := B1.out.below hb2 B1.out.lt
  have hbT2 := HT.out.below hb2 HT.out.lt
  have u1 : w2.cell? ⟨T, 1, none⟩ = some (.slice av ls.length cv) := hbT2.cell 1
  have q2' : w2.cell? ⟨w.heap.size, 2, none⟩ = some (.slice A vs.length cap) := bx2.cell 2
  have CL2 := hide (CL.out w2 hb2)
  have HB2 := hide (HB.out.trans (hb2.mono HB.out.size))
  have BX2 := hide bx2
  have HT2 := hide hbT2
  have HO2 := hide (own_belowR HO.out hb2)
  have HS2 := hide (show w.heap.size < w2.heap.size from bx2.lt)
  clear hb2 bx2 hbT2 q0 q1 q2
  go_wp2_with fail
  refine CL2.out.mono ?_
  rintro e w3 ⟨v3, rfl, hv3, hb3⟩
  obtain ⟨g3, c3, rfl, hg3, hvr⟩ := VRow.of_own hv3 HM.out.1 HV.out
  have bx3 := BX2.out.below hb3 BX2.out.lt
  have f2 := bx3.frozen 2
  have q3 : w3.cell? ⟨w.heap.size, 2, none⟩ = some (.slice A vs.length cap) := bx3.cell 2
  have hbT3 := HT2.out.below hb3 HT2.out.lt
  have ho3 := own_belowR HO2.out hb3
  have hB3 := HB2.out.trans (hb3.mono HB2.out.size)
  have hs2 := HS2.out
  have hTl : T < w.heap.size := HN.out.2.1
  -- the box with the clone
  have bx4 : Blk (w3.setCell ⟨w.heap.size, 2, none⟩ (.slice (some ⟨g3, 0, none⟩) vs.length c3)) w.heap.size 36 #[.int .i64 r, .int .i64 c, .slice (some ⟨g3, 0, none⟩) vs.length c3] := by simpa using bx3.set_ 2 (.slice (some ⟨g3, 0, none⟩) vs.length c3)
  have hbT4 := hbT3.far (p := ⟨w.heap.size, 2, none⟩) (by show T ≠ w.heap.size; omega) (.slice (some ⟨g3, 0, none⟩) vs.length c3)
  have ho4 := own_setCell ho3 (p := ⟨w.heap.size, 2, none⟩) (fun e => by have := (HN.out.2.2.1 _ e).2; exact absurd this (Nat.lt_irrefl _)) (.slice (some ⟨g3, 0, none⟩) vs.length c3)
  have hB4 := hB3.setCell (p := ⟨w.heap.size, 2, none⟩) (Nat.le_refl _) (.slice (some ⟨g3, 0, none⟩) vs.length c3)
  have hv4 : VRow (w3.setCell ⟨w.heap.size, 2, none⟩ (.slice (some ⟨g3, 0, none⟩) vs.length c3)) (some ⟨g3, 0, none⟩) vs := hvr.keep fun g hg => by
    injection hg with hg
    injection hg with hg
    subst hg
    exact Below.heap_setCell w3 ⟨w.heap.size, 2, none⟩ _ g3 (by show g3 ≠ w.heap.size; omega)
  obtain ⟨w4, hw4⟩ : ∃ x, w3.setCell ⟨w.heap.size, 2, none⟩ (.slice (some ⟨g3, 0, none⟩) vs.length c3) = x := ⟨_, rfl⟩
  rw [hw4] at bx4 hbT4 ho4 hB4 hv4
  have BX4 := hide bx4
  have HT4 := hide hbT4
  have HO4 := hide ho4
  have HB4 := hide hB4
  have HV4 := hide hv4
  have HG3 := hide (show w.heap.size ≤ g3 by omega)
  clear bx3 hbT3 ho3 hB3 bx4 hbT4 ho4 hB4 hv4 hvr hv3 hb3 hg3 u1 q2'
  go_wp2_with fail
  clear hw4 f2 q3
  have hnT0 : (Value.slice av ls.length cv).ownBlock ≠ some T := HN.out.1
  have hgl : ∀ g, (Value.slice av ls.length cv).ownBlock = some g → B ≤ g ∧ g < w.heap.size := HN.out.2.2.1
  have hg3 := HG3.out
  have hB : B ≤ w.heap.size := by have := HN.out.2.2.2.1; omega
  obtain ⟨row, hrow⟩ : ∃ x, (Value.slice av ls.length cv).ownBlock = x := ⟨_, rfl⟩
  have far : ∀ {g : Nat}, w.heap.size ≤ g → some g ≠ row := fun {g} hg e => by
    have := (hgl g (hrow.trans e.symm)).2
    omega
  have farT : some T ≠ row := fun e => hnT0 (hrow.trans e.symm)
  let K : World → World → Prop := fun a b => a.grownBy b row
  let R : Nat → Value → World → Prop := fun sl u w1 => match sl with
    | 23 | 24 | 25 | 33 => u = .pointer (some ⟨T, 0, none⟩)
    | 26 | 34 => u = .pointer (some ⟨T, 1, none⟩)
    | 27 => u = .slice av ls.length cv
    | 28 => u = .agg #[.int .i64 r, .int .i64 c, .slice (some ⟨g3, 0, none⟩) vs.length c3]
    | 29 => u = .bool off
    | 30 => u = .agg #[.int .i64 r, .int .i64 c, .slice (some ⟨g3, 0, none⟩) vs.length c3, .bool off, .int .i64 0]
    | 31 => ∃ b, u = .slice (some ⟨b, 0, none⟩) 1 1 ∧ w.heap.size ≤ b ∧ Blk w1 b 59 #[.int .i64 r, .int .i64 c, .slice (some ⟨g3, 0, none⟩) vs.length c3, .bool off, .int .i64 0]
    | _ => True
  let J : Option Value → World → Prop := fun b w1 => match b with
    | none => w1.ownsRow B 59 5 (.slice av ls.length cv) ls.length (lvCs ls)
    | some u => w1.ownsRow B 59 5 u (ls.length + 1) (lvCs ls ++ [.int .i64 r, .int .i64 c, .slice (some ⟨g3, 0, none⟩) vs.length c3, .bool off, .int .i64 0])
  have hKB : ∀ w w', Below w.heap.size w w' → K w w' := fun _ _ hb => grown_of_below hb
  have hJB : ∀ b w w', J b w → Below w.heap.size w w' → J b w' := fun b wa wb hj hb => by
    cases b with
    | none => exact own_belowR hj hb
    | some u => exact own_belowR hj hb
  refine wp_region_relJ 12 32 R K J (by kernel_rfl) (by kernel_rfl) (by kernel_rfl) (by kernel_rfl) (by kernel_rfl) (fun _ _ _ h1 h2 => gtrans h1 h2) (hKB _ _ (Below.refl _ _).drew) HO4.out.drew ?mono ?step ?fin
  case mono =>
    intro sl u wa wb hu hk
    match sl with
    | 31 =>
      obtain ⟨b, h1, h2, h3⟩ := hu
      exact ⟨b, h1, h2, h3.grown hk (far h2)⟩
    | 0 | 1 | 2 | 3 | 4 | 5 | 6 | 7 | 8 | 9 | 10 | 11 | 12 | 13 | 14 | 15 | 16 | 17 | 18 | 19 | 20 | 21 | 22 | 23 | 24 | 25 | 26 | 27 | 28 | 29 | 30 | 32 | 33 | 34 | _ + 35 => exact hu
  case fin =>
    intro ff w9 hk hj hr
    have hown : w9.ownsRow B 59 5 (ff 32) (ls.length + 1) (lvCs ls ++ [.int .i64 r, .int .i64 c, .slice (some ⟨g3, 0, none⟩) vs.length c3, .bool off, .int .i64 0]) := hj
    have e34 : ff 34 = .pointer (some ⟨T, 1, none⟩) := hr 34 (by decide)
    have hbT9 := HT4.out.grown hk farT
    have u0 : w9.cell? ⟨T, 1, none⟩ = some (.slice av ls.length cv) := hbT9.cell 1
    have f0 := hbT9.frozen 1
    have hnT : (ff 32).ownBlock ≠ some T := own_blk_ne hown hbT9 (by decide)
    obtain ⟨a9, c9, e32⟩ := own_form hown
    rw [e32] at hown hnT
    have hTl : T < w.heap.size := HN.out.2.1
    have ON : Only (T :: row.toList) w (w9.setCell ⟨T, 1, none⟩ (.slice a9 (ls.length + 1) c9)) := by
      refine ((Only.of_below HB4.out).trans (b := w4) ?_).trans (Only.set_ w9 (p := ⟨T, 1, none⟩) _ List.mem_cons_self)
      exact ⟨hk.size, fun j hj hn => hk.block j hj fun e => hn (List.mem_cons_of_mem _ (Option.mem_toList.2 e.symm))⟩
    have KB := OT.out _ (by rw [hrow]; exact ON)
    have V9 : VRow (w9.setCell ⟨T, 1, none⟩ (.slice a9 (ls.length + 1) c9)) (some ⟨g3, 0, none⟩) vs := HV4.out.keep fun g hg => by
      injection hg with hg
      injection hg with hg
      subst hg
      exact (Below.heap_setCell w9 ⟨T, 1, none⟩ _ g3 (by show g3 ≠ T; omega)).trans (hk.block g3 (HV4.out.lt rfl) (far hg3))
    have TA : StA (w9.setCell ⟨T, 1, none⟩ (.slice a9 (ls.length + 1) c9)) T B (ls ++ [⟨r, c, some ⟨g3, 0, none⟩, c3, vs, off, 0⟩]) := by
      refine ⟨by have := HLT.out; simp; omega, ⟨_, by simpa using hbT9.set_ 1 (.slice a9 (ls.length + 1) c9), ?_⟩, fun i hi => ?_⟩
      · rw [lvCs_app, List.length_append, List.length_singleton]
        exact own_setCell hown (p := ⟨T, 1, none⟩) hnT _
      · by_cases hi2 : i < ls.length
        · rw [List.getElem_append_left hi2]
          obtain ⟨g, cs, hA, hb, hr2⟩ := HR.out i hi2
          exact ⟨g, cs, hA, (KB.2 g cs _ (0, 0) hb (by decide)).trans hb, hr2⟩
        · have e : i = ls.length := by rw [List.length_append, List.length_singleton] at hi; omega
          subst e
          rw [List.getElem_append_right (Nat.le_refl _)]
          simp only [Nat.sub_self, List.getElem_cons_zero]
          exact V9
    have BL : Below B w (w9.setCell ⟨T, 1, none⟩ (.slice a9 (ls.length + 1) c9)) := ((HB4.out.mono hB).grown hk (Nat.le_trans hB HB4.out.size) (fun k e => (hgl k (hrow.trans e)).1)).setCell (p := ⟨T, 1, none⟩) HN.out.2.2.2.1 _
    have FIN := hide (And.intro TA (And.intro BL (And.intro KB ON)))
    clear hk hr hj hown hbT9 hnT ON KB TA BL V9 hKB hJB hgl hnT0 hTl hs2
    simp only [putAll, slotsOf, List.take, List.drop, List.filterMap_cons, List.filterMap_nil, List.foldl_cons, List.foldl_nil, Act.put, e32, e34]
    simp only [List.setIfInBounds_toArray, List.set_cons_succ, List.set_cons_zero]
    go_wp2_with fail
    go_ret
    exact ⟨rfl, ⟨g3, c3, HG3.out, FIN.out.1⟩, FIN.out.2.1, FIN.out.2.2.1, _, HCT.out, by rw [hrow]; exact FIN.out.2.2.2⟩
  case step =>
    intro o ho
    simp only [List.take, List.mem_cons, List.not_mem_nil, or_false] at ho
    rcases ho with rfl | rfl | rfl | rfl | rfl | rfl | rfl | rfl | rfl | rfl | rfl | rfl
    · refine ⟨fun h => absurd h (by decide), fun _ b => stepJ_of hKB hJB fun a w1 hk hj hsm hr => ?_⟩
      have e0 : a.tmps.getD 0 undef = .pointer (some ⟨T, 0, none⟩) := hsm 0 (by decide)
      rw [Array.getD_eq_getD_getElem?] at e0
      unfold Oper.wp
      simp only [execOp, Act.eval, Array.getD_eq_getD_getElem?, e0]
      go_simp
      exact ⟨_, rfl, rfl, Below.refl _ _⟩
    · refine ⟨fun h => absurd h (by decide), fun _ b => stepJ_of hKB hJB fun a w1 hk hj hsm hr => ?_⟩
      have e0 : a.tmps.getD 0 undef = .pointer (some ⟨T, 0, none⟩) := hsm 0 (by decide)
      rw [Array.getD_eq_getD_getElem?] at e0
      unfold Oper.wp
      simp only [execOp, Act.eval, Array.getD_eq_getD_getElem?, e0]
      go_simp
      exact ⟨_, rfl, rfl, Below.refl _ _⟩
    · refine ⟨fun h => absurd h (by decide), fun _ b => stepJ_of hKB hJB fun a w1 hk hj hsm hr => ?_⟩
      have e24 : a.tmps.getD 24 undef = .pointer (some ⟨T, 0, none⟩) := hr 24 (by decide) (by apply Array.mem_toList_iff.1; repeat (first | exact List.Mem.head _ | apply List.Mem.tail))
      rw [Array.getD_eq_getD_getElem?] at e24
      unfold Oper.wp
      simp only [execOp, Act.eval, Array.getD_eq_getD_getElem?, e24]
      go_simp
      exact ⟨_, rfl, rfl, Below.refl _ _⟩
    · refine ⟨fun h => absurd h (by decide), fun _ b => stepJ_of hKB hJB fun a w1 hk hj hsm hr => ?_⟩
      have e25 : a.tmps.getD 25 undef = .pointer (some ⟨T, 0, none⟩) := hr 25 (by decide) (by apply Array.mem_toList_iff.1; repeat (first | exact List.Mem.head _ | apply List.Mem.tail))
      rw [Array.getD_eq_getD_getElem?] at e25
      unfold Oper.wp
      simp only [execOp, Act.eval, Array.getD_eq_getD_getElem?, e25]
      go_simp
      exact ⟨_, rfl, rfl, Below.refl _ _⟩
    · refine ⟨fun h => absurd h (by decide), fun _ b => stepJ_of hKB hJB fun a w1 hk hj hsm hr => ?_⟩
      have e26 : a.tmps.getD 26 undef = .pointer (some ⟨T, 1, none⟩) := hr 26 (by decide) (by apply Array.mem_toList_iff.1; repeat (first | exact List.Mem.head _ | apply List.Mem.tail))
      have u0 : w1.cell? ⟨T, 1, none⟩ = some (.slice av ls.length cv) := (HT4.out.grown hk farT).cell 1
      rw [Array.getD_eq_getD_getElem?] at e26
      unfold Oper.wp
      simp only [execOp, Act.eval, Array.getD_eq_getD_getElem?, e26]
      go_simp
      exact ⟨_, rfl, rfl, Below.refl _ _⟩
    · refine ⟨fun h => absurd h (by decide), fun _ b => stepJ_of hKB hJB fun a w1 hk hj hsm hr => ?_⟩
      have e4 : a.tmps.getD 4 undef = .pointer (some ⟨w.heap.size, 0, none⟩) := hsm 4 (by decide)
      have b9 := BX4.out.grown hk (far (Nat.le_refl _))
      have u0 : w1.cell? ⟨w.heap.size, 0, none⟩ = some (.int .i64 r) := b9.cell 0
      have u1 : w1.cell? ⟨w.heap.size, 1, none⟩ = some (.int .i64 c) := b9.cell 1
      have u2 : w1.cell? ⟨w.heap.size, 2, none⟩ = some (.slice (some ⟨g3, 0, none⟩) vs.length c3) := b9.cell 2
      rw [Array.getD_eq_getD_getElem?] at e4
      unfold Oper.wp
      simp only [execOp, Act.eval, Array.getD_eq_getD_getElem?, e4]
      go_simp
      exact ⟨_, rfl, rfl, Below.refl _ _⟩
    · refine ⟨fun h => absurd h (by decide), fun _ b => stepJ_of hKB hJB fun a w1 hk hj hsm hr => ?_⟩
      have e2 : a.tmps.getD 2 undef = .bool off := hsm 2 (by decide)
      rw [Array.getD_eq_getD_getElem?] at e2
      unfold Oper.wp
      simp only [execOp, Act.eval, Array.getD_eq_getD_getElem?, e2]
      go_simp
      exact ⟨_, rfl, rfl, Below.refl _ _⟩
    · refine ⟨fun h => absurd h (by decide), fun _ b => stepJ_of hKB hJB fun a w1 hk hj hsm hr => ?_⟩
      have e28 : a.tmps.getD 28 undef = .agg #[.int .i64 r, .int .i64 c, .slice (some ⟨g3, 0, none⟩) vs.length c3] := hr 28 (by decide) (by apply Array.mem_toList_iff.1; repeat (first | exact List.Mem.head _ | apply List.Mem.tail))
      have e29 : a.tmps.getD 29 undef = .bool off := hr 29 (by decide) (by apply Array.mem_toList_iff.1; repeat (first | exact List.Mem.head _ | apply List.Mem.tail))
      rw [Array.getD_eq_getD_getElem?] at e28
      rw [Array.getD_eq_getD_getElem?] at e29
      unfold Oper.wp
      simp only [execOp, Act.eval, Array.getD_eq_getD_getElem?, e28, e29]
      go_simp
      exact ⟨_, rfl, rfl, Below.refl _ _⟩
    · refine ⟨fun h => absurd h (by decide), fun _ b => stepJ_of hKB hJB fun a w1 hk hj hsm hr => ?_⟩
      have e30 : a.tmps.getD 30 undef = .agg #[.int .i64 r, .int .i64 c, .slice (some ⟨g3, 0, none⟩) vs.length c3, .bool off, .int .i64 0] := hr 30 (by decide) (by apply Array.mem_toList_iff.1; repeat (first | exact List.Mem.head _ | apply List.Mem.tail))
      have hw1 : w.heap.size ≤ w1.heap.size := by have := hk.size; have := HB4.out.size; omega
      rw [Array.getD_eq_getD_getElem?] at e30
      unfold Oper.wp
      simp only [execOp, Act.eval, Array.getD_eq_getD_getElem?, e30]
      go_simp
      exact ⟨_, rfl, ⟨w1.heap.size, rfl, hw1, Blk.new w1 59 _⟩, (Below.refl _ _).alloc (Nat.le_refl _) _⟩
    · refine ⟨fun _ a w1 hk hj hsm hr => ?_, fun h => absurd rfl h⟩
      have e27 : a.tmps.getD 27 undef = .slice av ls.length cv := hr 27 (by decide) (by apply Array.mem_toList_iff.1; repeat (first | exact List.Mem.head _ | apply List.Mem.tail))
      have e31 : ∃ b, a.tmps.getD 31 undef = .slice (some ⟨b, 0, none⟩) 1 1 ∧ w.heap.size ≤ b ∧ Blk w1 b 59 #[.int .i64 r, .int .i64 c, .slice (some ⟨g3, 0, none⟩) vs.length c3, .bool off, .int .i64 0] := hr 31 (by decide) (by apply Array.mem_toList_iff.1; repeat (first | exact List.Mem.head _ | apply List.Mem.tail))
      obtain ⟨b, e31', hb, hbb⟩ := e31
      have hj : w1.ownsRow B 59 5 (.slice av ls.length cv) ls.length (lvCs ls) := hj
      have hrd : Reads w1 w1.heap.size 5 (some ⟨b, 0, none⟩) 1 [.int .i64 r, .int .i64 c, .slice (some ⟨g3, 0, none⟩) vs.length c3, .bool off, .int .i64 0] := ⟨rfl, fun _ => ⟨_, rfl, hbb.lt, fun j u hu => by rw [add_lit, hbb.cell]; simpa using hu⟩⟩
      obtain ⟨hi0, hz0, hz1, hz2⟩ := HI.out
      obtain ⟨v', w'', hrun, hown', hgb, _⟩ := run_append_any (P := Tryd.prog) w1 B 52 52 59 i0 _ 5 56 Tryd.underlying52 hi0 hz0 hz1 hz2 (by rfl) (by omega) _ _ _ hj w1.heap.size (some ⟨b, 0, none⟩) 1 1 _ hrd (by intro u hu; simp only [List.mem_cons, List.not_mem_nil, or_false] at hu; rcases hu with rfl | rfl | rfl | rfl | rfl <;> rfl) (by have := HLT.out; unfold maxLen; omega) (by have := HLT.out; omega) (by have := hk.size; have := HB4.out.size; omega)
      rw [hrow] at hgb
      exact Lib.wp_append_run w1 (.tmp 27) (.tmp 31) 52 52 rfl _ _ e27 e31' v' w'' hrun ⟨v', rfl, fun t ht => by cases ht; exact True.intro, hgb, hown'⟩
    · refine ⟨fun h => absurd h (by decide), fun _ b => stepJ_of hKB hJB fun a w1 hk hj hsm hr => ?_⟩
      have e23 : a.tmps.getD 23 undef = .pointer (some ⟨T, 0, none⟩) := hr 23 (by decide) (by apply Array.mem_toList_iff.1; repeat (first | exact List.Mem.head _ | apply List.Mem.tail))
      rw [Array.getD_eq_getD_getElem?] at e23
      unfold Oper.wp
      simp only [execOp, Act.eval, Array.getD_eq_getD_getElem?, e23]
      go_simp
      exact ⟨_, rfl, rfl, Below.refl _ _⟩
    · refine ⟨fun h => absurd h (by decide), fun _ b => stepJ_of hKB hJB fun a w1 hk hj hsm hr => ?_⟩
      have e33 : a.tmps.getD 33 undef = .pointer (some ⟨T, 0, none⟩) := hr 33 (by decide) (by apply Array.mem_toList_iff.1; repeat (first | exact List.Mem.head _ | apply List.Mem.tail))
      rw [Array.getD_eq_getD_getElem?] at e33
      unfold Oper.wp
      simp only [execOp, Act.eval, Array.getD_eq_getD_getElem?, e33]
      go_simp
      exact ⟨_, rfl, rfl, Below.refl _ _⟩
end Pth
end Go.Proofs.YtiojpokfcejhcaaDoor
