/- Put: the program's. -/
import Derived.Test.YtnmaclpjddafnaaRows
import Derived.Test.YtnmaclpjddafnaaSignIp
import Derived.Test.YtnmaclpjddafnaaSignH
namespace Go.Proofs.Ytnmaclpjddafnaa
open Go.RowKit
set_option linter.unusedVariables false
set_option linter.unusedSimpArgs false
/-- A row with a choice put in, or none. -/
def putL (l : List Ch) (x : Ch) : Option (List Ch) := if mayL l && mayC x && !fndL l x then some (l.take (posL l x) ++ x :: l.drop (posL l x)) else none
def PutR (B : Nat) (l : List Ch) (x : Ch) (e : Ending) (w' : World) : Prop := match putL l x with
  | some m => ∃ v, e = .returned (.tuple #[v, .int .i64 0]) ∧ w'.ownsRow B 24 5 v m.length (chs m)
  | none => e = .returned (.tuple #[.slice none 0 0, .int .i64 2])
theorem PutR.no {B : Nat} {l : List Ch} {x : Ch} (h : (mayL l && mayC x && !fndL l x) = false) (w' : World) : PutR B l x (.returned (.tuple #[.slice none 0 0, .int .i64 2])) w' := by
  unfold PutR putL; rw [h]; rfl
theorem own_base {w : World} {k B size n : Nat} {e : TypeId} {v : Value} {xs : List Value} (h : w.ownsRow k e size v n xs) (hB : B ≤ k) : w.ownsRow B e size v n xs := by
  refine ⟨h.1, h.2.imp id ?_⟩
  rintro ⟨g, cap, cur, rfl, hge, r⟩
  exact ⟨g, cap, cur, rfl, by omega, r⟩
theorem posL_le (l : List Ch) (x : Ch) : posL l x ≤ l.length := by
  unfold posL
  split
  · rename_i i hi
    rw [List.findIdx?_eq_some_iff_getElem] at hi
    obtain ⟨h, _⟩ := hi
    omega
  · exact Nat.le_refl _
set_option maxRecDepth 100000 in
set_option maxHeartbeats 4000000 in
theorem Put_a (A : Option Addr) (cap : Nat) (l : List Ch) (x : Ch) (w : World) (h : CRow w A l) (hl : l.length ≤ 1000) :
    Calls Try.prog 7 #[.slice A l.length cap, x.val] w fun e w' => PutR w.heap.size l x e w' ∧ Below w.heap.size w w' := by
  have YES := hide (fun (hm : (mayL l && mayC x && !fndL l x) = true) (B : Nat) (w' : World) (v : Value) (ho : w'.ownsRow B 24 5 v (l.length + 1) (chs (l.take (posL l x) ++ x :: l.drop (posL l x)))) => show PutR B l x (.returned (.tuple #[v, .int .i64 0])) w' by
    unfold PutR putL
    rw [hm]
    have e : (l.take (posL l x) ++ x :: l.drop (posL l x)).length = l.length + 1 := by
      have := posL_le l x
      rw [List.length_append, List.length_cons, List.length_take, List.length_drop]; omega
    exact ⟨v, rfl, by rw [e]; exact ho⟩)
  have NO := hide (fun (hm : (mayL l && mayC x && !fndL l x) = false) (B : Nat) (w' : World) => PutR.no (B := B) hm w')
  have MY := hide (fun (w' : World) (hb : Below w.heap.size w w') => May_a A cap l w' (h.below hb) hl)
  have MC := hide (may_a x)
  have PL := hide (fun (w' : World) (hb : Below w.heap.size w w') (hm : mayL l = true) => place_a A cap l x w' (h.below hb) hl hm)
  have CL := hide (fun (w' : World) (hb : Below w.heap.size w w') => Clone_a A cap l w' (h.below hb) (by omega))
  have IN := hide (fun v xb w' hown hB hx => Insert_a v l (posL l x) x xb w.heap.size w' (posL_le l x) (by omega) hown hB hx)
  have PLE := posL_le l x
  have XB := hide (fun (w' : World) (xb : Nat) (h : Blk w' xb 24 #[.int .i64 x.r, .int .i64 x.c, .int .i64 x.f, .int .i64 x.s, .int .i64 x.v]) => show Blk w' xb 24 (chC x).toArray from h)
  have IR : Hid (∀ (B : Nat) (w' : World) e w2, InsR B w' l (posL l x) x e w2 → ∃ v, e = .returned v ∧ w2.ownsRow B 24 5 v (l.length + 1) (chs (l.take (posL l x) ++ x :: l.drop (posL l x))) ∧ Below B w' w2) := hide fun B w' e w2 h => h
  clear h
  generalize mayL l = ml at *
  generalize mayC x = mc at *
  generalize fndL l x = fn at *
  generalize posL l x = pp at *
  generalize chC x = cx at *
  obtain ⟨r, c, f, s, v⟩ := x
  unfold Ch.val at MC PL ⊢
  simp only at MC PL XB ⊢
  have hb1 := (Below.refl w.heap.size w).alloc (Nat.le_refl _) (.cells #[.int .i64 r, .int .i64 c, .int .i64 f, .int .i64 s, .int .i64 v] 24)
  have bk := Blk.new w 24 #[.int .i64 r, .int .i64 c, .int .i64 f, .int .i64 s, .int .i64 v]
  have hs1 : w.heap.size < (w.alloc (.cells #[.int .i64 r, .int .i64 c, .int .i64 f, .int .i64 s, .int .i64 v] 24)).heap.size := by simp
  cases ml with
  | false =>
    have M1 := hide (MY.out _ hb1)
    have N1 := hide (NO.out (by simp))
    clear bk
    go_enter Try.func7, Try.ntmps7
    go_wp2_with fail
    refine M1.out.mono ?_
    rintro e w1 ⟨rfl, hb2⟩
    have HB2 := hide (hb1.trans (hb2.mono hb1.size))
    clear hb2 hb1
    go_wp2_with fail
    go_ret2
    exact ⟨N1.out _ _, HB2.out⟩
  | true =>
    have M1 := hide (MY.out _ hb1)
    have HB1 := hide hb1
    have BK := hide bk
    cases mc with
    | false =>
      have N1 := hide (NO.out (by simp))
      clear bk hb1
      go_enter Try.func7, Try.ntmps7
      go_wp2_with fail
      refine M1.out.mono ?_
      rintro e w1 ⟨rfl, hb2⟩
      have HB2 := hide (HB1.out.trans (hb2.mono HB1.out.size))
      have b2 := BK.out.below hb2 hs1
      have q0 := b2.cell 0
      have q1 := b2.cell 1
      have q2 := b2.cell 2
      have q3 := b2.cell 3
      have q4 := b2.cell 4
      simp only [List.getElem?_toArray, List.getElem?_cons_zero, List.getElem?_cons_succ] at q0 q1 q2 q3 q4
      clear hb2 b2
      go_wp2_with fail
      refine (MC.out _).mono ?_
      rintro e w2 ⟨rfl, hb3⟩
      have HB3 := hide (HB2.out.trans (hb3.mono HB2.out.size))
      clear hb3
      go_wp2_with fail
      go_ret2
      exact ⟨N1.out _ _, HB3.out⟩
    | true =>
      clear bk hb1
      go_enter Try.func7, Try.ntmps7
      go_wp2_with fail
      refine M1.out.mono ?_
      rintro e w1 ⟨rfl, hb2⟩
      have HB2 := hide (HB1.out.trans (hb2.mono HB1.out.size))
      have b2 := BK.out.below hb2 hs1
      have hs2 : w.heap.size < w1.heap.size := Nat.lt_of_lt_of_le hs1 hb2.size
      have q0 := b2.cell 0
      have q1 := b2.cell 1
      have q2 := b2.cell 2
      have q3 := b2.cell 3
      have q4 := b2.cell 4
      simp only [List.getElem?_toArray, List.getElem?_cons_zero, List.getElem?_cons_succ] at q0 q1 q2 q3 q4
      have BK2 := hide b2
      clear hb2 b2
      go_wp2_with fail
      refine (MC.out _).mono ?_
      rintro e w2 ⟨rfl, hb3⟩
      have HB3 := hide (HB2.out.trans (hb3.mono HB2.out.size))
      have b3 := BK2.out.below hb3 hs2
      have hs3 : w.heap.size < w2.heap.size := Nat.lt_of_lt_of_le hs2 hb3.size
      clear q0 q1 q2 q3 q4
      have q0 := b3.cell 0
      have q1 := b3.cell 1
      have q2 := b3.cell 2
      have q3 := b3.cell 3
      have q4 := b3.cell 4
      simp only [List.getElem?_toArray, List.getElem?_cons_zero, List.getElem?_cons_succ] at q0 q1 q2 q3 q4
      have BK3 := hide b3
      have P3 := hide (PL.out w2 HB3.out (by trivial))
      clear hb3 b3
      go_wp2_with fail
      refine P3.out.mono ?_
      rintro e w3 ⟨rfl, hb4⟩
      have HB4 := hide (HB3.out.trans (hb4.mono HB3.out.size))
      have b4 := BK3.out.below hb4 hs3
      have hs4 : w.heap.size < w3.heap.size := Nat.lt_of_lt_of_le hs3 hb4.size
      clear q0 q1 q2 q3 q4
      have BK4 := hide b4
      clear hb4 b4
      cases fn with
      | true =>
        have N1 := hide (NO.out (by simp))
        go_wp2_with fail
        go_ret2
        exact ⟨N1.out _ _, HB4.out⟩
      | false =>
        have Y1 := hide (YES.out (by simp))
        go_wp2_with fail
        let R : Nat → Value → World → Prop := fun t u w1 => match t with
          | 23 => u = .slice A l.length cap
          | 24 => w1.ownsRow w.heap.size 24 5 u l.length (chs l)
          | 25 => u = .int .i64 pp
          | 26 => u = .agg #[.int .i64 r, .int .i64 c, .int .i64 f, .int .i64 s, .int .i64 v]
          | 27 => ∃ g, u = .slice (some ⟨g, 0, none⟩) 1 1 ∧ Blk w1 g 24 #[.int .i64 r, .int .i64 c, .int .i64 f, .int .i64 s, .int .i64 v]
          | _ => True
        refine wp_region_relT 5 R (by kernel_rfl) (by kernel_rfl) (by kernel_rfl) (by kernel_rfl) ?mono ?step ?fin
        case mono =>
          intro t u w1 w2 h hb
          match t with
          | 24 => exact own_belowR h hb
          | 27 =>
            obtain ⟨g, h1, h2⟩ := h
            exact ⟨g, h1, h2.below hb h2.lt⟩
          | 23 | 25 | 26 => exact h
          | 0 | 1 | 2 | 3 | 4 | 5 | 6 | 7 | 8 | 9 | 10 | 11 | 12 | 13 | 14 | 15 | 16 | 17 | 18 | 19 | 20 | 21 | 22 => trivial
          | _ + 28 => trivial
        case fin =>
          intro ff w5 hb hr
          have f24 : w5.ownsRow w.heap.size 24 5 (ff 24) l.length (chs l) := hr 24 (by decide)
          have f25 : ff 25 = .int .i64 pp := hr 25 (by decide)
          have f27 : ∃ g, ff 27 = .slice (some ⟨g, 0, none⟩) 1 1 ∧ Blk w5 g 24 #[.int .i64 r, .int .i64 c, .int .i64 f, .int .i64 s, .int .i64 v] := hr 27 (by decide)
          obtain ⟨g9, f27, hg9⟩ := f27
          have HB5 := hide (HB4.out.trans (hb.mono HB4.out.size))
          have I5 := hide (IN.out (ff 24) g9 w5 f24 HB5.out.size (XB.out _ _ hg9))
          obtain ⟨v24, e24⟩ : ∃ v24, ff 24 = v24 := ⟨_, rfl⟩
          rw [e24] at I5
          simp only [putAll, slotsOf, List.take_succ_cons, List.take_zero, List.drop_succ_cons, List.drop_zero, List.filterMap_cons, List.filterMap_nil, List.foldl_cons, List.foldl_nil, Act.put, e24, f25, f27]
          simp only [List.setIfInBounds_toArray, List.set_cons_succ, List.set_cons_zero]
          clear hb hr f24 f25 f27 hg9 e24
          clear MY MC PL CL IN XB YES NO M1 HB1 BK BK2 BK3 BK4 P3 HB2 HB3 R HB4
          go_wp2_with fail
          refine I5.out.mono ?_
          intro e w6 hI
          obtain ⟨v6, rfl, ho6, hb6⟩ := IR.out _ _ _ _ hI
          have Y6 := hide (Y1.out w.heap.size w6 v6 ho6)
          have HB6 := hide (HB5.out.trans hb6)
          clear hI ho6 hb6
          go_wp2_with fail
          go_ret2
          exact ⟨Y6.out, HB6.out⟩
        case step =>
          intro o ho
          simp only [List.take_succ_cons, List.take_zero, List.mem_cons, List.not_mem_nil, or_false] at ho
          rcases ho with rfl | rfl | rfl | rfl | rfl
          · intro a w1 hb hs hr
            have e0 : a.tmps.getD 0 undef = .slice A l.length cap := hs 0 (by decide)
            rw [Array.getD_eq_getD_getElem?] at e0
            unfold Oper.wp
            simp only [execOp, Act.eval, Array.getD_eq_getD_getElem?, e0]
            go_simp
            exact ⟨_, rfl, rfl, Below.refl _ _⟩
          · intro a w1 hb hs hr
            have e23 : a.tmps.getD 23 undef = .slice A l.length cap := hr 23 (by decide) (by apply Array.mem_toList_iff.1; repeat (first | exact List.Mem.head _ | apply List.Mem.tail))
            rw [Array.getD_eq_getD_getElem?] at e23
            unfold Oper.wp
            simp only [execOp, Act.eval, Array.getD_eq_getD_getElem?, e23]
            go_simp
            refine (CL.out w1 (HB4.out.trans (hb.mono HB4.out.size))).mono ?_
            rintro e w' ⟨v', rfl, ho', hb'⟩
            exact ⟨_, rfl, own_base ho' (Nat.le_trans HB4.out.size hb.size), hb'⟩
          · intro a w1 hb hs hr
            have e6 : a.tmps.getD 6 undef = .int .i64 pp := hs 6 (by decide)
            rw [Array.getD_eq_getD_getElem?] at e6
            unfold Oper.wp
            simp only [execOp, Act.eval, Array.getD_eq_getD_getElem?, e6]
            go_simp
            exact ⟨_, rfl, rfl, Below.refl _ _⟩
          · intro a w1 hb hs hr
            have e3 : a.tmps.getD 3 undef = .pointer (some ⟨w.heap.size, 0, none⟩) := hs 3 (by decide)
            have c0c : w1.cell? ⟨w.heap.size, 0, none⟩ = some (.int .i64 r) := (hb.cell (p := ⟨w.heap.size, 0, none⟩) hs4).trans (BK4.out.cell 0)
            have c1c : w1.cell? ⟨w.heap.size, 1, none⟩ = some (.int .i64 c) := (hb.cell (p := ⟨w.heap.size, 1, none⟩) hs4).trans (BK4.out.cell 1)
            have c2c : w1.cell? ⟨w.heap.size, 2, none⟩ = some (.int .i64 f) := (hb.cell (p := ⟨w.heap.size, 2, none⟩) hs4).trans (BK4.out.cell 2)
            have c3c : w1.cell? ⟨w.heap.size, 3, none⟩ = some (.int .i64 s) := (hb.cell (p := ⟨w.heap.size, 3, none⟩) hs4).trans (BK4.out.cell 3)
            have c4c : w1.cell? ⟨w.heap.size, 4, none⟩ = some (.int .i64 v) := (hb.cell (p := ⟨w.heap.size, 4, none⟩) hs4).trans (BK4.out.cell 4)
            rw [Array.getD_eq_getD_getElem?] at e3
            unfold Oper.wp
            simp only [execOp, Act.eval, Array.getD_eq_getD_getElem?, e3]
            go_simp
            exact ⟨_, rfl, rfl, Below.refl _ _⟩
          · intro a w1 hb hs hr
            have e26 : a.tmps.getD 26 undef = .agg #[.int .i64 r, .int .i64 c, .int .i64 f, .int .i64 s, .int .i64 v] := hr 26 (by decide) (by apply Array.mem_toList_iff.1; repeat (first | exact List.Mem.head _ | apply List.Mem.tail))
            rw [Array.getD_eq_getD_getElem?] at e26
            unfold Oper.wp
            simp only [execOp, Act.eval, Array.getD_eq_getD_getElem?, e26]
            go_simp
            exact ⟨_, rfl, ⟨w1.heap.size, rfl, Blk.new w1 _ _⟩, (Below.refl _ _).alloc (Nat.le_refl _) _⟩
end Go.Proofs.Ytnmaclpjddafnaa
