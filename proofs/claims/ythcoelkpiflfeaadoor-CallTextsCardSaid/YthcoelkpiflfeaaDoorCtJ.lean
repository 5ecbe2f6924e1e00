/- The text of a call: the document. -/
import Derived.Test.YthcoelkpiflfeaaDoorRows
import Derived.Test.YthcoelkpiflfeaaDoorCtI
import Derived.Test.YthcoelkpiflfeaaDoorCtAb
import Derived.Test.YthcoelkpiflfeaaDoorCalJ
import Derived.Test.YthcoelkpiflfeaaDoorCalQ
import Derived.Test.YthcoelkpiflfeaaDoorCalG
import Derived.Test.YthcoelkpiflfeaaDoorGround
namespace Go.Proofs.YthcoelkpiflfeaaDoor
open Go Go.RowKit Go.Lib Go.Proofs.YthcoelkpiflfeaaDoor.Grp
set_option linter.unusedVariables false
set_option linter.unusedSimpArgs false
namespace Cal
set_option maxRecDepth 100000 in
set_option maxHeartbeats 32000000 in
theorem Text_b (c : Cl) (ra : Option Addr) (rc : Nat) (w : World) (hr : NRow w ra c.rq) (hl : c.rq.length ≤ 1000) (ho : c.ok) :
    Calls Tryd.prog 8 #[.agg #[.int .u8 c.k, .int .i64 c.co, .int .i64 c.pe, .int .i64 c.tg, .int .i64 c.va, .int .i64 c.sz, .int .i64 c.ro, .int .u8 c.op, .slice ra c.rq.length rc, .int .i64 c.cl, .int .i64 c.ky]] w fun e w' => TextIs c e ∧ Below w.heap.size w w' := by
  have hb1 := (Below.refl w.heap.size w).alloc (Nat.le_refl _) (.cells #[.int .u8 c.k, .int .i64 c.co, .int .i64 c.pe, .int .i64 c.tg, .int .i64 c.va, .int .i64 c.sz, .int .i64 c.ro, .int .u8 c.op, .slice ra c.rq.length rc, .int .i64 c.cl, .int .i64 c.ky] 24)
  have k1 := Blk.new w 24 #[.int .u8 c.k, .int .i64 c.co, .int .i64 c.pe, .int .i64 c.tg, .int .i64 c.va, .int .i64 c.sz, .int .i64 c.ro, .int .u8 c.op, .slice ra c.rq.length rc, .int .i64 c.cl, .int .i64 c.ky]
  go_enter Tryd.func8, Tryd.ntmps8
  go_upto_region 1 with (fail)
  obtain ⟨w1, hw1⟩ : ∃ z, w.alloc (.cells #[.int .u8 c.k, .int .i64 c.co, .int .i64 c.pe, .int .i64 c.tg, .int .i64 c.va, .int .i64 c.sz, .int .i64 c.ro, .int .u8 c.op, .slice ra c.rq.length rc, .int .i64 c.cl, .int .i64 c.ky] 24) = z := ⟨_, rfl⟩
  rw [hw1] at hb1 k1 ⊢
  have HR1 := hide (hr.below hb1)
  have HB1 := hide (And.intro hb1 hb1.size)
  have HO := hide ho
  have HL := hide hl
  have HL5 := hide (show c.rq.length ≤ 100000 by omega)
  obtain ⟨X, hX⟩ : ∃ X, w.heap.size = X := ⟨_, rfl⟩
  have HX := hide hX
  rw [hX] at k1 HB1
  rw [hX]
  have K1 := hide k1
  have HTRL : Hid ((trimC c).rq.length ≤ 100000) := hide (by
    show (if hasF c.k 7 then c.rq else []).length ≤ 100000
    split
    · omega
    · exact Nat.zero_le _)
  have UB := hide (fun w' => uses_b c.k w')
  obtain ⟨U, hU⟩ : ∃ u : ByteArray, (⟨usesS c.k⟩ : ByteArray) = u := ⟨_, rfl⟩
  rw [hU] at UB
  have HU := hide hU
  clear hb1 k1 hw1 hX hr hl ho hU
  by_cases h0 : usedL c.k = []
  · have NT : Hid (¬ hasText c) := hide (fun h => h.1 h0)
    have E10 : Hid (U.toList.isEmpty = true) := hide (by rw [← HU.out, (uses_empty c.k).2 h0, ByteArray.toList_eq]; rfl)
    clear h0
    let R : Nat → Value → World → Prop := fun sl u w1 => match sl with
      | 7 => u = .pointer (some ⟨X, 0, none⟩)
      | 8 => u = .int .u8 c.k
      | 9 => u = .string U
      | 10 => u = .bool true
      | 11 => u = .bool true
      | 17 => u = .bool true
      | 18 => u = .bool true
      | 22 => u = .bool true
      | 23 => u = .bool true
      | 27 => u = undef
      | 32 => u = .bool true
      | _ => True
    let G0 : Nat → Bool := fun i => match i with | 5 => false | 6 => false | 7 => false | 8 => false | 9 => false | 12 => false | 13 => false | 14 => false | 17 => false | 18 => false | 19 => false | 20 => false | 21 => false | 22 => false | 23 => false | 24 => false | _ => true
    refine wp_region_relG G0 R (fun a b => Below a.heap.size a b) (fun _ w => Below w1.heap.size w1 w) (by kernel_rfl) (by kernel_rfl) (by kernel_rfl) ?mono (fun w => Below.refl _ _) ((Below.refl _ _).drew) (by kernel_rfl) ?gg ?step ?skip ?fin
    case mono =>
      intro sl u wx wy h hk
      match sl with
      | 0 | 1 | 2 | 3 | 4 | 5 | 6 | 7 | 8 | 9 | 10 | 11 | 12 | 13 | 14 | 15 | 16 | 17 | 18 | 19 | 20 | 21 | 22 | 23 | 24 | 25 | 26 | 27 | 28 | 29 | 30 | 31 | 32 | _ + 33 => exact h
    case gg =>
      intro i o g b o' t u w ho hg hg1 hd hr
      match i, ho with
      | 0, ho => cases ho; cases hg
      | 1, ho => cases ho; cases hg
      | 2, ho => cases ho; cases hg
      | 3, ho => cases ho; cases hg
      | 4, ho => cases ho; cases hg
      | 5, ho =>
        cases ho; cases hg; cases hg1; cases hd
        have e : u = .bool true := hr
        rw [e]; rfl
      | 6, ho =>
        cases ho; cases hg; cases hg1; cases hd
        have e : u = .bool true := hr
        rw [e]; rfl
      | 7, ho =>
        cases ho; cases hg; cases hg1; cases hd
        have e : u = .bool true := hr
        rw [e]; rfl
      | 8, ho =>
        cases ho; cases hg; cases hg1; cases hd
        have e : u = .bool true := hr
        rw [e]; rfl
      | 9, ho =>
        cases ho; cases hg; cases hg1; cases hd
        have e : u = .bool true := hr
        rw [e]; rfl
      | 10, ho => cases ho; cases hg
      | 11, ho => cases ho; cases hg
      | 12, ho =>
        cases ho; cases hg; cases hg1; cases hd
        have e : u = .bool true := hr
        rw [e]; rfl
      | 13, ho =>
        cases ho; cases hg; cases hg1; cases hd
        have e : u = .bool true := hr
        rw [e]; rfl
      | 14, ho =>
        cases ho; cases hg; cases hg1; cases hd
        have e : u = .bool true := hr
        rw [e]; rfl
      | 15, ho => cases ho; cases hg
      | 16, ho => cases ho; cases hg
      | 17, ho =>
        cases ho; cases hg; cases hg1; cases hd
        have e : u = .bool true := hr
        rw [e]; rfl
      | 18, ho =>
        cases ho; cases hg; cases hg1; cases hd
        have e : u = .bool true := hr
        rw [e]; rfl
      | 19, ho =>
        cases ho; cases hg; cases hg1; cases hd
        have e : u = .bool true := hr
        rw [e]; rfl
      | 20, ho =>
        cases ho; cases hg; cases hg1; cases hd
        have e : u = .bool true := hr
        rw [e]; rfl
      | 21, ho =>
        cases ho; cases hg; cases hg1; cases hd
        have e : u = undef := hr
        rw [e]; rfl
      | 22, ho =>
        cases ho; cases hg; cases hg1; cases hd
        have e : u = undef := hr
        rw [e]; rfl
      | 23, ho =>
        cases ho; cases hg; cases hg1; cases hd
        have e : u = undef := hr
        rw [e]; rfl
      | 24, ho =>
        cases ho; cases hg; cases hg1; cases hd
        have e : u = .bool true := hr
        rw [e]; rfl
      | 25, ho => cases ho; cases hg
      | _ + 26, ho => cases ho
    case skip =>
      intro i o ho hG V w hV hj
      match i, ho with
      | 0, ho => exact absurd hG (by show ¬ (true = false); decide)
      | 1, ho => exact absurd hG (by show ¬ (true = false); decide)
      | 2, ho => exact absurd hG (by show ¬ (true = false); decide)
      | 3, ho => exact absurd hG (by show ¬ (true = false); decide)
      | 4, ho => exact absurd hG (by show ¬ (true = false); decide)
      | 5, ho => cases ho; exact ⟨fun t ht => by cases ht; trivial, hj⟩
      | 6, ho => cases ho; exact ⟨fun t ht => by cases ht; trivial, hj⟩
      | 7, ho => cases ho; exact ⟨fun t ht => by cases ht; trivial, hj⟩
      | 8, ho => cases ho; exact ⟨fun t ht => by cases ht; trivial, hj⟩
      | 9, ho => cases ho; exact ⟨fun t ht => by cases ht; trivial, hj⟩
      | 10, ho => exact absurd hG (by show ¬ (true = false); decide)
      | 11, ho => exact absurd hG (by show ¬ (true = false); decide)
      | 12, ho => cases ho; exact ⟨fun t ht => by cases ht; trivial, hj⟩
      | 13, ho => cases ho; exact ⟨fun t ht => by cases ht; trivial, hj⟩
      | 14, ho => cases ho; exact ⟨fun t ht => by cases ht; trivial, hj⟩
      | 15, ho => exact absurd hG (by show ¬ (true = false); decide)
      | 16, ho => exact absurd hG (by show ¬ (true = false); decide)
      | 17, ho => cases ho; exact ⟨fun t ht => by cases ht; trivial, hj⟩
      | 18, ho => cases ho; exact ⟨fun t ht => by cases ht; trivial, hj⟩
      | 19, ho => cases ho; exact ⟨fun t ht => by cases ht; trivial, hj⟩
      | 20, ho => cases ho; exact ⟨fun t ht => by cases ht; trivial, hj⟩
      | 21, ho => cases ho; exact ⟨fun t ht => by cases ht; trivial, hj⟩
      | 22, ho => cases ho; exact ⟨fun t ht => by cases ht; trivial, hj⟩
      | 23, ho => cases ho; exact ⟨fun t ht => by cases ht; trivial, hj⟩
      | 24, ho => cases ho; exact ⟨fun t ht => by cases ht; trivial, hj⟩
      | 25, ho => exact absurd hG (by show ¬ (true = false); decide)
      | _ + 26, ho => cases ho
    case step =>
      intro j o ho hG
      match j, ho with
      | 0, ho =>
        cases ho
        intro V aa wx hV hdep hval hj hsm hr
        have e1 : aa.tmps.getD 1 undef = .pointer (some ⟨X, 0, none⟩) := hsm 1 (by decide)
        rw [Array.getD_eq_getD_getElem?] at e1
        unfold Oper.wp
        simp only [execOp, Act.eval, Array.getD_eq_getD_getElem?, e1]
        go_simp
        first | exact ⟨_, rfl, rfl, Below.refl _ _⟩ | exact ⟨_, rfl, rfl, Below.refl _ _, hj⟩ | exact ⟨_, rfl, Below.refl _ _, hj⟩ | exact ⟨_, rfl, hj⟩
      | 1, ho =>
        cases ho
        intro V aa wx hV hdep hval hj hsm hr
        have e7 : aa.tmps.getD 7 undef = .pointer (some ⟨X, 0, none⟩) := hr 7 (by decide) (by apply Array.mem_toList_iff.1; repeat (first | exact List.Mem.head _ | apply List.Mem.tail))
        have hkb := K1.out.below hj K1.out.lt
        have cc0 : wx.cell? ⟨X, 0, none⟩ = some (.int .u8 c.k) := hkb.cell 0
        have cc1 : wx.cell? ⟨X, 1, none⟩ = some (.int .i64 c.co) := hkb.cell 1
        have cc2 : wx.cell? ⟨X, 2, none⟩ = some (.int .i64 c.pe) := hkb.cell 2
        have cc3 : wx.cell? ⟨X, 3, none⟩ = some (.int .i64 c.tg) := hkb.cell 3
        have cc4 : wx.cell? ⟨X, 4, none⟩ = some (.int .i64 c.va) := hkb.cell 4
        have cc5 : wx.cell? ⟨X, 5, none⟩ = some (.int .i64 c.sz) := hkb.cell 5
        have cc6 : wx.cell? ⟨X, 6, none⟩ = some (.int .i64 c.ro) := hkb.cell 6
        have cc7 : wx.cell? ⟨X, 7, none⟩ = some (.int .u8 c.op) := hkb.cell 7
        have cc8 : wx.cell? ⟨X, 8, none⟩ = some (.slice ra c.rq.length rc) := hkb.cell 8
        have cc9 : wx.cell? ⟨X, 9, none⟩ = some (.int .i64 c.cl) := hkb.cell 9
        have cc10 : wx.cell? ⟨X, 10, none⟩ = some (.int .i64 c.ky) := hkb.cell 10
        rw [Array.getD_eq_getD_getElem?] at e7
        unfold Oper.wp
        simp only [execOp, Act.eval, Array.getD_eq_getD_getElem?, e7]
        go_simp
        first | exact ⟨_, rfl, rfl, Below.refl _ _⟩ | exact ⟨_, rfl, rfl, Below.refl _ _, hj⟩ | exact ⟨_, rfl, Below.refl _ _, hj⟩ | exact ⟨_, rfl, hj⟩
      | 2, ho =>
        cases ho
        intro V aa wx hV hdep hval hj hsm hr
        have e8 : aa.tmps.getD 8 undef = .int .u8 c.k := hr 8 (by decide) (by apply Array.mem_toList_iff.1; repeat (first | exact List.Mem.head _ | apply List.Mem.tail))
        rw [Array.getD_eq_getD_getElem?] at e8
        unfold Oper.wp
        simp only [execOp, Act.eval, Array.getD_eq_getD_getElem?, e8]
        go_simp
        refine (UB.out wx).mono ?_
        rintro e w' ⟨rfl, rfl⟩
        exact ⟨_, rfl, rfl, Below.refl _ _, hj⟩
      | 3, ho =>
        cases ho
        intro V aa wx hV hdep hval hj hsm hr
        have e9 : aa.tmps.getD 9 undef = .string U := hr 9 (by decide) (by apply Array.mem_toList_iff.1; repeat (first | exact List.Mem.head _ | apply List.Mem.tail))
        rw [Array.getD_eq_getD_getElem?] at e9
        unfold Oper.wp
        simp only [execOp, Act.eval, Array.getD_eq_getD_getElem?, e9]
        go_simp
        have E := E10.out
        first | exact ⟨_, rfl, rfl, Below.refl _ _⟩ | exact ⟨_, rfl, rfl, Below.refl _ _, hj⟩ | exact ⟨_, rfl, (show Value.bool U.toList.isEmpty = .bool true by rw [E]), Below.refl _ _⟩ | exact ⟨_, rfl, (show Value.bool U.toList.isEmpty = .bool true by rw [E]), Below.refl _ _, hj⟩
      | 4, ho =>
        cases ho
        intro V aa wx hV hdep hval hj hsm hr
        have e10 : aa.tmps.getD 10 undef = .bool true := hr 10 (by decide) (by apply Array.mem_toList_iff.1; repeat (first | exact List.Mem.head _ | apply List.Mem.tail))
        rw [Array.getD_eq_getD_getElem?] at e10
        unfold Oper.wp
        simp only [execOp, Act.eval, Array.getD_eq_getD_getElem?, e10]
        go_simp
        first | exact ⟨_, rfl, rfl, Below.refl _ _⟩ | exact ⟨_, rfl, rfl, Below.refl _ _, hj⟩ | exact ⟨_, rfl, Below.refl _ _, hj⟩ | exact ⟨_, rfl, hj⟩
      | 5, ho => exact absurd hG (by show ¬ (false = true); decide)
      | 6, ho => exact absurd hG (by show ¬ (false = true); decide)
      | 7, ho => exact absurd hG (by show ¬ (false = true); decide)
      | 8, ho => exact absurd hG (by show ¬ (false = true); decide)
      | 9, ho => exact absurd hG (by show ¬ (false = true); decide)
      | 10, ho =>
        cases ho
        intro V aa wx hV hdep hval hj hsm hr
        have e11 : aa.tmps.getD 11 undef = .bool true := hr 11 (by decide) (by apply Array.mem_toList_iff.1; repeat (first | exact List.Mem.head _ | apply List.Mem.tail))
        rw [Array.getD_eq_getD_getElem?] at e11
        unfold Oper.wp
        simp only [execOp, Act.eval, Array.getD_eq_getD_getElem?, e11]
        go_simp
        first | exact ⟨_, rfl, rfl, Below.refl _ _⟩ | exact ⟨_, rfl, rfl, Below.refl _ _, hj⟩ | exact ⟨_, rfl, Below.refl _ _, hj⟩ | exact ⟨_, rfl, hj⟩
      | 11, ho =>
        cases ho
        intro V aa wx hV hdep hval hj hsm hr
        have e17 : aa.tmps.getD 17 undef = .bool true := hr 17 (by decide) (by apply Array.mem_toList_iff.1; repeat (first | exact List.Mem.head _ | apply List.Mem.tail))
        rw [Array.getD_eq_getD_getElem?] at e17
        unfold Oper.wp
        simp only [execOp, Act.eval, Array.getD_eq_getD_getElem?, e17]
        go_simp
        first | exact ⟨_, rfl, rfl, Below.refl _ _⟩ | exact ⟨_, rfl, rfl, Below.refl _ _, hj⟩ | exact ⟨_, rfl, Below.refl _ _, hj⟩ | exact ⟨_, rfl, hj⟩
      | 12, ho => exact absurd hG (by show ¬ (false = true); decide)
      | 13, ho => exact absurd hG (by show ¬ (false = true); decide)
      | 14, ho => exact absurd hG (by show ¬ (false = true); decide)
      | 15, ho =>
        cases ho
        intro V aa wx hV hdep hval hj hsm hr
        have e18 : aa.tmps.getD 18 undef = .bool true := hr 18 (by decide) (by apply Array.mem_toList_iff.1; repeat (first | exact List.Mem.head _ | apply List.Mem.tail))
        rw [Array.getD_eq_getD_getElem?] at e18
        unfold Oper.wp
        simp only [execOp, Act.eval, Array.getD_eq_getD_getElem?, e18]
        go_simp
        first | exact ⟨_, rfl, rfl, Below.refl _ _⟩ | exact ⟨_, rfl, rfl, Below.refl _ _, hj⟩ | exact ⟨_, rfl, Below.refl _ _, hj⟩ | exact ⟨_, rfl, hj⟩
      | 16, ho =>
        cases ho
        intro V aa wx hV hdep hval hj hsm hr
        have e22 : aa.tmps.getD 22 undef = .bool true := hr 22 (by decide) (by apply Array.mem_toList_iff.1; repeat (first | exact List.Mem.head _ | apply List.Mem.tail))
        rw [Array.getD_eq_getD_getElem?] at e22
        unfold Oper.wp
        simp only [execOp, Act.eval, Array.getD_eq_getD_getElem?, e22]
        go_simp
        first | exact ⟨_, rfl, rfl, Below.refl _ _⟩ | exact ⟨_, rfl, rfl, Below.refl _ _, hj⟩ | exact ⟨_, rfl, Below.refl _ _, hj⟩ | exact ⟨_, rfl, hj⟩
      | 17, ho => exact absurd hG (by show ¬ (false = true); decide)
      | 18, ho => exact absurd hG (by show ¬ (false = true); decide)
      | 19, ho => exact absurd hG (by show ¬ (false = true); decide)
      | 20, ho => exact absurd hG (by show ¬ (false = true); decide)
      | 21, ho => exact absurd hG (by show ¬ (false = true); decide)
      | 22, ho => exact absurd hG (by show ¬ (false = true); decide)
      | 23, ho => exact absurd hG (by show ¬ (false = true); decide)
      | 24, ho => exact absurd hG (by show ¬ (false = true); decide)
      | 25, ho =>
        cases ho
        intro V aa wx hV hdep hval hj hsm hr
        have e23 : aa.tmps.getD 23 undef = .bool true := hr 23 (by decide) (by apply Array.mem_toList_iff.1; repeat (first | exact List.Mem.head _ | apply List.Mem.tail))
        rw [Array.getD_eq_getD_getElem?] at e23
        unfold Oper.wp
        simp only [execOp, Act.eval, Array.getD_eq_getD_getElem?, e23]
        go_simp
        first | exact ⟨_, rfl, rfl, Below.refl _ _⟩ | exact ⟨_, rfl, rfl, Below.refl _ _, hj⟩ | exact ⟨_, rfl, Below.refl _ _, hj⟩ | exact ⟨_, rfl, hj⟩
      | _ + 26, ho => cases ho
    case fin =>
      intro ff V w5 hV hj hr
      have e32 : ff 32 = .bool true := hr 32 (by decide)
      have HB5 := hide (HB1.out.1.trans (hj.mono HB1.out.2))
      clear hV hr
      simp only [putAll, slotsOf, List.filterMap_cons, List.filterMap_nil, List.foldl_cons, List.foldl_nil, Act.put, e32]
      simp only [List.setIfInBounds_toArray, List.set_cons_succ, List.set_cons_zero]
      go_wp2_with fail
      exact bodyPost_ret (v := .tuple #[.string ⟨#[]⟩, .int .i64 160]) (by simp [results, Tryd.results8, go_sem]) rfl ⟨.inr ⟨NT.out, rfl⟩, by rw [HX.out]; exact HB5.out⟩
  have HNE := hide h0
  have E10 : Hid (U.toList.isEmpty = false) := hide (by
    rw [← HU.out, ByteArray.toList_eq]
    have : ¬ (usesS c.k) = #[] := fun e => h0 ((uses_empty c.k).1 e)
    simpa using this)
  clear h0
  obtain ⟨bs, hbs⟩ : ∃ b, decide (c = trimC c) = b := ⟨_, rfl⟩
  have HBS := hide hbs
  clear hbs
  have TRB := hide (fun w' (h : NRow w' ra c.rq) => Trim_b c ra rc w' h HL5.out)
  unfold Cl.A clA TrimP at TRB
  cases bs with
  | false =>
    have NT : Hid (¬ hasText c) := hide (fun h => by have := of_decide_eq_false HBS.out; exact this h.2.1)
    let R : Nat → Value → World → Prop := fun sl u w1 => match sl with
      | 7 => u = .pointer (some ⟨X, 0, none⟩)
      | 8 => u = .int .u8 c.k
      | 9 => u = .string U
      | 10 => u = .bool false
      | 11 => u = .bool false
      | 12 => u = .agg #[.int .u8 c.k, .int .i64 c.co, .int .i64 c.pe, .int .i64 c.tg, .int .i64 c.va, .int .i64 c.sz, .int .i64 c.ro, .int .u8 c.op, .slice ra c.rq.length rc, .int .i64 c.cl, .int .i64 c.ky]
      | 13 => u = .agg #[.int .u8 c.k, .int .i64 c.co, .int .i64 c.pe, .int .i64 c.tg, .int .i64 c.va, .int .i64 c.sz, .int .i64 c.ro, .int .u8 c.op, .slice ra c.rq.length rc, .int .i64 c.cl, .int .i64 c.ky]
      | 14 => ∃ rb rd, u = .agg ((trimC c).A rb rd) ∧ NRow w1 rb (trimC c).rq
      | 15 => u = .bool false
      | 16 => u = .bool true
      | 17 => u = .bool true
      | 18 => u = .bool true
      | 22 => u = .bool true
      | 23 => u = .bool true
      | 27 => u = undef
      | 32 => u = .bool true
      | _ => True
    let G0 : Nat → Bool := fun i => match i with | 12 => false | 13 => false | 14 => false | 17 => false | 18 => false | 19 => false | 20 => false | 21 => false | 22 => false | 23 => false | 24 => false | _ => true
    refine wp_region_relG G0 R (fun a b => Below a.heap.size a b) (fun _ w => Below w1.heap.size w1 w) (by kernel_rfl) (by kernel_rfl) (by kernel_rfl) ?mono (fun w => Below.refl _ _) ((Below.refl _ _).drew) (by kernel_rfl) ?gg ?step ?skip ?fin
    case mono =>
      intro sl u wx wy h hk
      match sl with
      | 14 =>
        obtain ⟨rb, rd, h1, h2⟩ := h
        exact ⟨rb, rd, h1, h2.below hk⟩
      | 0 | 1 | 2 | 3 | 4 | 5 | 6 | 7 | 8 | 9 | 10 | 11 | 12 | 13 | 15 | 16 | 17 | 18 | 19 | 20 | 21 | 22 | 23 | 24 | 25 | 26 | 27 | 28 | 29 | 30 | 31 | 32 | _ + 33 => exact h
    case gg =>
      intro i o g b o' t u w ho hg hg1 hd hr
      match i, ho with
      | 0, ho => cases ho; cases hg
      | 1, ho => cases ho; cases hg
      | 2, ho => cases ho; cases hg
      | 3, ho => cases ho; cases hg
      | 4, ho => cases ho; cases hg
      | 5, ho =>
        cases ho; cases hg; cases hg1; cases hd
        have e : u = .bool false := hr
        rw [e]; rfl
      | 6, ho =>
        cases ho; cases hg; cases hg1; cases hd
        have e : u = .bool false := hr
        rw [e]; rfl
      | 7, ho =>
        cases ho; cases hg; cases hg1; cases hd
        have e : u = .bool false := hr
        rw [e]; rfl
      | 8, ho =>
        cases ho; cases hg; cases hg1; cases hd
        have e : u = .bool false := hr
        rw [e]; rfl
      | 9, ho =>
        cases ho; cases hg; cases hg1; cases hd
        have e : u = .bool false := hr
        rw [e]; rfl
      | 10, ho => cases ho; cases hg
      | 11, ho => cases ho; cases hg
      | 12, ho =>
        cases ho; cases hg; cases hg1; cases hd
        have e : u = .bool true := hr
        rw [e]; rfl
      | 13, ho =>
        cases ho; cases hg; cases hg1; cases hd
        have e : u = .bool true := hr
        rw [e]; rfl
      | 14, ho =>
        cases ho; cases hg; cases hg1; cases hd
        have e : u = .bool true := hr
        rw [e]; rfl
      | 15, ho => cases ho; cases hg
      | 16, ho => cases ho; cases hg
      | 17, ho =>
        cases ho; cases hg; cases hg1; cases hd
        have e : u = .bool true := hr
        rw [e]; rfl
      | 18, ho =>
        cases ho; cases hg; cases hg1; cases hd
        have e : u = .bool true := hr
        rw [e]; rfl
      | 19, ho =>
        cases ho; cases hg; cases hg1; cases hd
        have e : u = .bool true := hr
        rw [e]; rfl
      | 20, ho =>
        cases ho; cases hg; cases hg1; cases hd
        have e : u = .bool true := hr
        rw [e]; rfl
      | 21, ho =>
        cases ho; cases hg; cases hg1; cases hd
        have e : u = undef := hr
        rw [e]; rfl
      | 22, ho =>
        cases ho; cases hg; cases hg1; cases hd
        have e : u = undef := hr
        rw [e]; rfl
      | 23, ho =>
        cases ho; cases hg; cases hg1; cases hd
        have e : u = undef := hr
        rw [e]; rfl
      | 24, ho =>
        cases ho; cases hg; cases hg1; cases hd
        have e : u = .bool true := hr
        rw [e]; rfl
      | 25, ho => cases ho; cases hg
      | _ + 26, ho => cases ho
    case skip =>
      intro i o ho hG V w hV hj
      match i, ho with
      | 0, ho => exact absurd hG (by show ¬ (true = false); decide)
      | 1, ho => exact absurd hG (by show ¬ (true = false); decide)
      | 2, ho => exact absurd hG (by show ¬ (true = false); decide)
      | 3, ho => exact absurd hG (by show ¬ (true = false); decide)
      | 4, ho => exact absurd hG (by show ¬ (true = false); decide)
      | 5, ho => exact absurd hG (by show ¬ (true = false); decide)
      | 6, ho => exact absurd hG (by show ¬ (true = false); decide)
      | 7, ho => exact absurd hG (by show ¬ (true = false); decide)
      | 8, ho => exact absurd hG (by show ¬ (true = false); decide)
      | 9, ho => exact absurd hG (by show ¬ (true = false); decide)
      | 10, ho => exact absurd hG (by show ¬ (true = false); decide)
      | 11, ho => exact absurd hG (by show ¬ (true = false); decide)
      | 12, ho => cases ho; exact ⟨fun t ht => by cases ht; trivial, hj⟩
      | 13, ho => cases ho; exact ⟨fun t ht => by cases ht; trivial, hj⟩
      | 14, ho => cases ho; exact ⟨fun t ht => by cases ht; trivial, hj⟩
      | 15, ho => exact absurd hG (by show ¬ (true = false); decide)
      | 16, ho => exact absurd hG (by show ¬ (true = false); decide)
      | 17, ho => cases ho; exact ⟨fun t ht => by cases ht; trivial, hj⟩
      | 18, ho => cases ho; exact ⟨fun t ht => by cases ht; trivial, hj⟩
      | 19, ho => cases ho; exact ⟨fun t ht => by cases ht; trivial, hj⟩
      | 20, ho => cases ho; exact ⟨fun t ht => by cases ht; trivial, hj⟩
      | 21, ho => cases ho; exact ⟨fun t ht => by cases ht; trivial, hj⟩
      | 22, ho => cases ho; exact ⟨fun t ht => by cases ht; trivial, hj⟩
      | 23, ho => cases ho; exact ⟨fun t ht => by cases ht; trivial, hj⟩
      | 24, ho => cases ho; exact ⟨fun t ht => by cases ht; trivial, hj⟩
      | 25, ho => exact absurd hG (by show ¬ (true = false); decide)
      | _ + 26, ho => cases ho
    case step =>
      intro j o ho hG
      match j, ho with
      | 0, ho =>
        cases ho
        intro V aa wx hV hdep hval hj hsm hr
        have e1 : aa.tmps.getD 1 undef = .pointer (some ⟨X, 0, none⟩) := hsm 1 (by decide)
        rw [Array.getD_eq_getD_getElem?] at e1
        unfold Oper.wp
        simp only [execOp, Act.eval, Array.getD_eq_getD_getElem?, e1]
        go_simp
        first | exact ⟨_, rfl, rfl, Below.refl _ _⟩ | exact ⟨_, rfl, rfl, Below.refl _ _, hj⟩ | exact ⟨_, rfl, Below.refl _ _, hj⟩ | exact ⟨_, rfl, hj⟩
      | 1, ho =>
        cases ho
        intro V aa wx hV hdep hval hj hsm hr
        have e7 : aa.tmps.getD 7 undef = .pointer (some ⟨X, 0, none⟩) := hr 7 (by decide) (by apply Array.mem_toList_iff.1; repeat (first | exact List.Mem.head _ | apply List.Mem.tail))
        have hkb := K1.out.below hj K1.out.lt
        have cc0 : wx.cell? ⟨X, 0, none⟩ = some (.int .u8 c.k) := hkb.cell 0
        have cc1 : wx.cell? ⟨X, 1, none⟩ = some (.int .i64 c.co) := hkb.cell 1
        have cc2 : wx.cell? ⟨X, 2, none⟩ = some (.int .i64 c.pe) := hkb.cell 2
        have cc3 : wx.cell? ⟨X, 3, none⟩ = some (.int .i64 c.tg) := hkb.cell 3
        have cc4 : wx.cell? ⟨X, 4, none⟩ = some (.int .i64 c.va) := hkb.cell 4
        have cc5 : wx.cell? ⟨X, 5, none⟩ = some (.int .i64 c.sz) := hkb.cell 5
        have cc6 : wx.cell? ⟨X, 6, none⟩ = some (.int .i64 c.ro) := hkb.cell 6
        have cc7 : wx.cell? ⟨X, 7, none⟩ = some (.int .u8 c.op) := hkb.cell 7
        have cc8 : wx.cell? ⟨X, 8, none⟩ = some (.slice ra c.rq.length rc) := hkb.cell 8
        have cc9 : wx.cell? ⟨X, 9, none⟩ = some (.int .i64 c.cl) := hkb.cell 9
        have cc10 : wx.cell? ⟨X, 10, none⟩ = some (.int .i64 c.ky) := hkb.cell 10
        rw [Array.getD_eq_getD_getElem?] at e7
        unfold Oper.wp
        simp only [execOp, Act.eval, Array.getD_eq_getD_getElem?, e7]
        go_simp
        first | exact ⟨_, rfl, rfl, Below.refl _ _⟩ | exact ⟨_, rfl, rfl, Below.refl _ _, hj⟩ | exact ⟨_, rfl, Below.refl _ _, hj⟩ | exact ⟨_, rfl, hj⟩
      | 2, ho =>
        cases ho
        intro V aa wx hV hdep hval hj hsm hr
        have e8 : aa.tmps.getD 8 undef = .int .u8 c.k := hr 8 (by decide) (by apply Array.mem_toList_iff.1; repeat (first | exact List.Mem.head _ | apply List.Mem.tail))
        rw [Array.getD_eq_getD_getElem?] at e8
        unfold Oper.wp
        simp only [execOp, Act.eval, Array.getD_eq_getD_getElem?, e8]
        go_simp
        refine (UB.out wx).mono ?_
        rintro e w' ⟨rfl, rfl⟩
        exact ⟨_, rfl, rfl, Below.refl _ _, hj⟩
      | 3, ho =>
        cases ho
        intro V aa wx hV hdep hval hj hsm hr
        have e9 : aa.tmps.getD 9 undef = .string U := hr 9 (by decide) (by apply Array.mem_toList_iff.1; repeat (first | exact List.Mem.head _ | apply List.Mem.tail))
        rw [Array.getD_eq_getD_getElem?] at e9
        unfold Oper.wp
        simp only [execOp, Act.eval, Array.getD_eq_getD_getElem?, e9]
        go_simp
        have E := E10.out
        first | exact ⟨_, rfl, rfl, Below.refl _ _⟩ | exact ⟨_, rfl, rfl, Below.refl _ _, hj⟩ | exact ⟨_, rfl, (show Value.bool U.toList.isEmpty = .bool false by rw [E]), Below.refl _ _⟩ | exact ⟨_, rfl, (show Value.bool U.toList.isEmpty = .bool false by rw [E]), Below.refl _ _, hj⟩
      | 4, ho =>
        cases ho
        intro V aa wx hV hdep hval hj hsm hr
        have e10 : aa.tmps.getD 10 undef = .bool false := hr 10 (by decide) (by apply Array.mem_toList_iff.1; repeat (first | exact List.Mem.head _ | apply List.Mem.tail))
        rw [Array.getD_eq_getD_getElem?] at e10
        unfold Oper.wp
        simp only [execOp, Act.eval, Array.getD_eq_getD_getElem?, e10]
        go_simp
        first | exact ⟨_, rfl, rfl, Below.refl _ _⟩ | exact ⟨_, rfl, rfl, Below.refl _ _, hj⟩ | exact ⟨_, rfl, Below.refl _ _, hj⟩ | exact ⟨_, rfl, hj⟩
      | 5, ho =>
        cases ho
        intro V aa wx hV hdep hval hj hsm hr
        have e1 : aa.tmps.getD 1 undef = .pointer (some ⟨X, 0, none⟩) := hsm 1 (by decide)
        have hkb := K1.out.below hj K1.out.lt
        have cc0 : wx.cell? ⟨X, 0, none⟩ = some (.int .u8 c.k) := hkb.cell 0
        have cc1 : wx.cell? ⟨X, 1, none⟩ = some (.int .i64 c.co) := hkb.cell 1
        have cc2 : wx.cell? ⟨X, 2, none⟩ = some (.int .i64 c.pe) := hkb.cell 2
        have cc3 : wx.cell? ⟨X, 3, none⟩ = some (.int .i64 c.tg) := hkb.cell 3
        have cc4 : wx.cell? ⟨X, 4, none⟩ = some (.int .i64 c.va) := hkb.cell 4
        have cc5 : wx.cell? ⟨X, 5, none⟩ = some (.int .i64 c.sz) := hkb.cell 5
        have cc6 : wx.cell? ⟨X, 6, none⟩ = some (.int .i64 c.ro) := hkb.cell 6
        have cc7 : wx.cell? ⟨X, 7, none⟩ = some (.int .u8 c.op) := hkb.cell 7
        have cc8 : wx.cell? ⟨X, 8, none⟩ = some (.slice ra c.rq.length rc) := hkb.cell 8
        have cc9 : wx.cell? ⟨X, 9, none⟩ = some (.int .i64 c.cl) := hkb.cell 9
        have cc10 : wx.cell? ⟨X, 10, none⟩ = some (.int .i64 c.ky) := hkb.cell 10
        rw [Array.getD_eq_getD_getElem?] at e1
        unfold Oper.wp
        simp only [execOp, Act.eval, Array.getD_eq_getD_getElem?, e1]
        go_simp
        first | exact ⟨_, rfl, rfl, Below.refl _ _⟩ | exact ⟨_, rfl, rfl, Below.refl _ _, hj⟩ | exact ⟨_, rfl, Below.refl _ _, hj⟩ | exact ⟨_, rfl, hj⟩
      | 6, ho =>
        cases ho
        intro V aa wx hV hdep hval hj hsm hr
        have e1 : aa.tmps.getD 1 undef = .pointer (some ⟨X, 0, none⟩) := hsm 1 (by decide)
        have hkb := K1.out.below hj K1.out.lt
        have cc0 : wx.cell? ⟨X, 0, none⟩ = some (.int .u8 c.k) := hkb.cell 0
        have cc1 : wx.cell? ⟨X, 1, none⟩ = some (.int .i64 c.co) := hkb.cell 1
        have cc2 : wx.cell? ⟨X, 2, none⟩ = some (.int .i64 c.pe) := hkb.cell 2
        have cc3 : wx.cell? ⟨X, 3, none⟩ = some (.int .i64 c.tg) := hkb.cell 3
        have cc4 : wx.cell? ⟨X, 4, none⟩ = some (.int .i64 c.va) := hkb.cell 4
        have cc5 : wx.cell? ⟨X, 5, none⟩ = some (.int .i64 c.sz) := hkb.cell 5
        have cc6 : wx.cell? ⟨X, 6, none⟩ = some (.int .i64 c.ro) := hkb.cell 6
        have cc7 : wx.cell? ⟨X, 7, none⟩ = some (.int .u8 c.op) := hkb.cell 7
        have cc8 : wx.cell? ⟨X, 8, none⟩ = some (.slice ra c.rq.length rc) := hkb.cell 8
        have cc9 : wx.cell? ⟨X, 9, none⟩ = some (.int .i64 c.cl) := hkb.cell 9
        have cc10 : wx.cell? ⟨X, 10, none⟩ = some (.int .i64 c.ky) := hkb.cell 10
        rw [Array.getD_eq_getD_getElem?] at e1
        unfold Oper.wp
        simp only [execOp, Act.eval, Array.getD_eq_getD_getElem?, e1]
        go_simp
        first | exact ⟨_, rfl, rfl, Below.refl _ _⟩ | exact ⟨_, rfl, rfl, Below.refl _ _, hj⟩ | exact ⟨_, rfl, Below.refl _ _, hj⟩ | exact ⟨_, rfl, hj⟩
      | 7, ho =>
        cases ho
        intro V aa wx hV hdep hval hj hsm hr
        have e13 : aa.tmps.getD 13 undef = .agg #[.int .u8 c.k, .int .i64 c.co, .int .i64 c.pe, .int .i64 c.tg, .int .i64 c.va, .int .i64 c.sz, .int .i64 c.ro, .int .u8 c.op, .slice ra c.rq.length rc, .int .i64 c.cl, .int .i64 c.ky] := hr 13 (by decide) (by apply Array.mem_toList_iff.1; repeat (first | exact List.Mem.head _ | apply List.Mem.tail))
        rw [Array.getD_eq_getD_getElem?] at e13
        unfold Oper.wp
        simp only [execOp, Act.eval, Array.getD_eq_getD_getElem?, e13]
        go_simp
        refine (TRB.out wx (HR1.out.below hj)).mono ?_
        rintro e w' ⟨rb, rd, rfl, hown, hb⟩
        exact ⟨_, rfl, ⟨rb, rd, rfl, own_row hown rfl⟩, hb, hj.trans (hb.mono hj.size)⟩
      | 8, ho =>
        cases ho
        intro V aa wx hV hdep hval hj hsm hr
        have e12 : aa.tmps.getD 12 undef = .agg #[.int .u8 c.k, .int .i64 c.co, .int .i64 c.pe, .int .i64 c.tg, .int .i64 c.va, .int .i64 c.sz, .int .i64 c.ro, .int .u8 c.op, .slice ra c.rq.length rc, .int .i64 c.cl, .int .i64 c.ky] := hr 12 (by decide) (by apply Array.mem_toList_iff.1; repeat (first | exact List.Mem.head _ | apply List.Mem.tail))
        have r14 := hr 14 (by decide) (by apply Array.mem_toList_iff.1; repeat (first | exact List.Mem.head _ | apply List.Mem.tail))
        obtain ⟨rb, rd, e14, hn14⟩ := r14
        have e14 : aa.tmps.getD 14 undef = .agg ((trimC c).A rb rd) := e14
        rw [Array.getD_eq_getD_getElem?] at e12
        rw [Array.getD_eq_getD_getElem?] at e14
        unfold Oper.wp
        simp only [execOp, Act.eval, Array.getD_eq_getD_getElem?, e12, e14]
        go_simp
        refine (Same_b c (trimC c) ra rb rc rd wx (HR1.out.below hj) hn14 HL5.out HTRL.out).mono ?_
        rintro e w' ⟨rfl, hb⟩
        exact ⟨_, rfl, by show Value.bool (decide (c = trimC c)) = .bool _; rw [HBS.out], hb, hj.trans (hb.mono hj.size)⟩
      | 9, ho =>
        cases ho
        intro V aa wx hV hdep hval hj hsm hr
        have e15 : aa.tmps.getD 15 undef = .bool false := hr 15 (by decide) (by apply Array.mem_toList_iff.1; repeat (first | exact List.Mem.head _ | apply List.Mem.tail))
        rw [Array.getD_eq_getD_getElem?] at e15
        unfold Oper.wp
        simp only [execOp, Act.eval, Array.getD_eq_getD_getElem?, e15]
        go_simp
        first | exact ⟨_, rfl, rfl, Below.refl _ _⟩ | exact ⟨_, rfl, rfl, Below.refl _ _, hj⟩ | exact ⟨_, rfl, Below.refl _ _, hj⟩ | exact ⟨_, rfl, hj⟩
      | 10, ho =>
        cases ho
        intro V aa wx hV hdep hval hj hsm hr
        have e11 : aa.tmps.getD 11 undef = .bool false := hr 11 (by decide) (by apply Array.mem_toList_iff.1; repeat (first | exact List.Mem.head _ | apply List.Mem.tail))
        have e16 : aa.tmps.getD 16 undef = .bool true := hr 16 (by decide) (by apply Array.mem_toList_iff.1; repeat (first | exact List.Mem.head _ | apply List.Mem.tail))
        rw [Array.getD_eq_getD_getElem?] at e11
        rw [Array.getD_eq_getD_getElem?] at e16
        unfold Oper.wp
        simp only [execOp, Act.eval, Array.getD_eq_getD_getElem?, e11, e16]
        go_simp
        first | exact ⟨_, rfl, rfl, Below.refl _ _⟩ | exact ⟨_, rfl, rfl, Below.refl _ _, hj⟩ | exact ⟨_, rfl, Below.refl _ _, hj⟩ | exact ⟨_, rfl, hj⟩
      | 11, ho =>
        cases ho
        intro V aa wx hV hdep hval hj hsm hr
        have e17 : aa.tmps.getD 17 undef = .bool true := hr 17 (by decide) (by apply Array.mem_toList_iff.1; repeat (first | exact List.Mem.head _ | apply List.Mem.tail))
        rw [Array.getD_eq_getD_getElem?] at e17
        unfold Oper.wp
        simp only [execOp, Act.eval, Array.getD_eq_getD_getElem?, e17]
        go_simp
        first | exact ⟨_, rfl, rfl, Below.refl _ _⟩ | exact ⟨_, rfl, rfl, Below.refl _ _, hj⟩ | exact ⟨_, rfl, Below.refl _ _, hj⟩ | exact ⟨_, rfl, hj⟩
      | 12, ho => exact absurd hG (by show ¬ (false = true); decide)
      | 13, ho => exact absurd hG (by show ¬ (false = true); decide)
      | 14, ho => exact absurd hG (by show ¬ (false = true); decide)
      | 15, ho =>
        cases ho
        intro V aa wx hV hdep hval hj hsm hr
        have e18 : aa.tmps.getD 18 undef = .bool true := hr 18 (by decide) (by apply Array.mem_toList_iff.1; repeat (first | exact List.Mem.head _ | apply List.Mem.tail))
        rw [Array.getD_eq_getD_getElem?] at e18
        unfold Oper.wp
        simp only [execOp, Act.eval, Array.getD_eq_getD_getElem?, e18]
        go_simp
        first | exact ⟨_, rfl, rfl, Below.refl _ _⟩ | exact ⟨_, rfl, rfl, Below.refl _ _, hj⟩ | exact ⟨_, rfl, Below.refl _ _, hj⟩ | exact ⟨_, rfl, hj⟩
      | 16, ho =>
        cases ho
        intro V aa wx hV hdep hval hj hsm hr
        have e22 : aa.tmps.getD 22 undef = .bool true := hr 22 (by decide) (by apply Array.mem_toList_iff.1; repeat (first | exact List.Mem.head _ | apply List.Mem.tail))
        rw [Array.getD_eq_getD_getElem?] at e22
        unfold Oper.wp
        simp only [execOp, Act.eval, Array.getD_eq_getD_getElem?, e22]
        go_simp
        first | exact ⟨_, rfl, rfl, Below.refl _ _⟩ | exact ⟨_, rfl, rfl, Below.refl _ _, hj⟩ | exact ⟨_, rfl, Below.refl _ _, hj⟩ | exact ⟨_, rfl, hj⟩
      | 17, ho => exact absurd hG (by show ¬ (false = true); decide)
      | 18, ho => exact absurd hG (by show ¬ (false = true); decide)
      | 19, ho => exact absurd hG (by show ¬ (false = true); decide)
      | 20, ho => exact absurd hG (by show ¬ (false = true); decide)
      | 21, ho => exact absurd hG (by show ¬ (false = true); decide)
      | 22, ho => exact absurd hG (by show ¬ (false = true); decide)
      | 23, ho => exact absurd hG (by show ¬ (false = true); decide)
      | 24, ho => exact absurd hG (by show ¬ (false = true); decide)
      | 25, ho =>
        cases ho
        intro V aa wx hV hdep hval hj hsm hr
        have e23 : aa.tmps.getD 23 undef = .bool true := hr 23 (by decide) (by apply Array.mem_toList_iff.1; repeat (first | exact List.Mem.head _ | apply List.Mem.tail))
        rw [Array.getD_eq_getD_getElem?] at e23
        unfold Oper.wp
        simp only [execOp, Act.eval, Array.getD_eq_getD_getElem?, e23]
        go_simp
        first | exact ⟨_, rfl, rfl, Below.refl _ _⟩ | exact ⟨_, rfl, rfl, Below.refl _ _, hj⟩ | exact ⟨_, rfl, Below.refl _ _, hj⟩ | exact ⟨_, rfl, hj⟩
      | _ + 26, ho => cases ho
    case fin =>
      intro ff V w5 hV hj hr
      have e32 : ff 32 = .bool true := hr 32 (by decide)
      have HB5 := hide (HB1.out.1.trans (hj.mono HB1.out.2))
      clear hV hr
      simp only [putAll, slotsOf, List.filterMap_cons, List.filterMap_nil, List.foldl_cons, List.foldl_nil, Act.put, e32]
      simp only [List.setIfInBounds_toArray, List.set_cons_succ, List.set_cons_zero]
      go_wp2_with fail
      exact bodyPost_ret (v := .tuple #[.string ⟨#[]⟩, .int .i64 160]) (by simp [results, Tryd.results8, go_sem]) rfl ⟨.inr ⟨NT.out, rfl⟩, by rw [HX.out]; exact HB5.out⟩
  | true =>
    have HTR : Hid (c = trimC c) := hide (of_decide_eq_true HBS.out)
    by_cases ho3 : 2 < c.op
    · have NT : Hid (¬ hasText c) := hide (fun h => by have := h.2.2.1; omega)
      have D3 : decide (2 < c.op) = true := decide_eq_true ho3
      let R : Nat → Value → World → Prop := fun sl u w1 => match sl with
        | 7 => u = .pointer (some ⟨X, 0, none⟩)
        | 8 => u = .int .u8 c.k
        | 9 => u = .string U
        | 10 => u = .bool false
        | 11 => u = .bool false
        | 12 => u = .agg #[.int .u8 c.k, .int .i64 c.co, .int .i64 c.pe, .int .i64 c.tg, .int .i64 c.va, .int .i64 c.sz, .int .i64 c.ro, .int .u8 c.op, .slice ra c.rq.length rc, .int .i64 c.cl, .int .i64 c.ky]
        | 13 => u = .agg #[.int .u8 c.k, .int .i64 c.co, .int .i64 c.pe, .int .i64 c.tg, .int .i64 c.va, .int .i64 c.sz, .int .i64 c.ro, .int .u8 c.op, .slice ra c.rq.length rc, .int .i64 c.cl, .int .i64 c.ky]
        | 14 => ∃ rb rd, u = .agg ((trimC c).A rb rd) ∧ NRow w1 rb (trimC c).rq
        | 15 => u = .bool true
        | 16 => u = .bool false
        | 17 => u = .bool false
        | 18 => u = .bool false
        | 19 => u = .pointer (some ⟨X, 7, none⟩)
        | 20 => u = .int .u8 c.op
        | 21 => u = .bool true
        | 22 => u = .bool true
        | 23 => u = .bool true
        | 27 => u = undef
        | 32 => u = .bool true
        | _ => True
      let G0 : Nat → Bool := fun i => match i with | 17 => false | 18 => false | 19 => false | 20 => false | 21 => false | 22 => false | 23 => false | 24 => false | _ => true
      refine wp_region_relG G0 R (fun a b => Below a.heap.size a b) (fun _ w => Below w1.heap.size w1 w) (by kernel_rfl) (by kernel_rfl) (by kernel_rfl) ?mono (fun w => Below.refl _ _) ((Below.refl _ _).drew) (by kernel_rfl) ?gg ?step ?skip ?fin
      case mono =>
        intro sl u wx wy h hk
        match sl with
        | 14 =>
          obtain ⟨rb, rd, h1, h2⟩ := h
          exact ⟨rb, rd, h1, h2.below hk⟩
        | 0 | 1 | 2 | 3 | 4 | 5 | 6 | 7 | 8 | 9 | 10 | 11 | 12 | 13 | 15 | 16 | 17 | 18 | 19 | 20 | 21 | 22 | 23 | 24 | 25 | 26 | 27 | 28 | 29 | 30 | 31 | 32 | _ + 33 => exact h
      case gg =>
        intro i o g b o' t u w ho hg hg1 hd hr
        match i, ho with
        | 0, ho => cases ho; cases hg
        | 1, ho => cases ho; cases hg
        | 2, ho => cases ho; cases hg
        | 3, ho => cases ho; cases hg
        | 4, ho => cases ho; cases hg
        | 5, ho =>
          cases ho; cases hg; cases hg1; cases hd
          have e : u = .bool false := hr
          rw [e]; rfl
        | 6, ho =>
          cases ho; cases hg; cases hg1; cases hd
          have e : u = .bool false := hr
          rw [e]; rfl
        | 7, ho =>
          cases ho; cases hg; cases hg1; cases hd
          have e : u = .bool false := hr
          rw [e]; rfl
        | 8, ho =>
          cases ho; cases hg; cases hg1; cases hd
          have e : u = .bool false := hr
          rw [e]; rfl
        | 9, ho =>
          cases ho; cases hg; cases hg1; cases hd
          have e : u = .bool false := hr
          rw [e]; rfl
        | 10, ho => cases ho; cases hg
        | 11, ho => cases ho; cases hg
        | 12, ho =>
          cases ho; cases hg; cases hg1; cases hd
          have e : u = .bool false := hr
          rw [e]; rfl
        | 13, ho =>
          cases ho; cases hg; cases hg1; cases hd
          have e : u = .bool false := hr
          rw [e]; rfl
        | 14, ho =>
          cases ho; cases hg; cases hg1; cases hd
          have e : u = .bool false := hr
          rw [e]; rfl
        | 15, ho => cases ho; cases hg
        | 16, ho => cases ho; cases hg
        | 17, ho =>
          cases ho; cases hg; cases hg1; cases hd
          have e : u = .bool true := hr
          rw [e]; rfl
        | 18, ho =>
          cases ho; cases hg; cases hg1; cases hd
          have e : u = .bool true := hr
          rw [e]; rfl
        | 19, ho =>
          cases ho; cases hg; cases hg1; cases hd
          have e : u = .bool true := hr
          rw [e]; rfl
        | 20, ho =>
          cases ho; cases hg; cases hg1; cases hd
          have e : u = .bool true := hr
          rw [e]; rfl
        | 21, ho =>
          cases ho; cases hg; cases hg1; cases hd
          have e : u = undef := hr
          rw [e]; rfl
        | 22, ho =>
          cases ho; cases hg; cases hg1; cases hd
          have e : u = undef := hr
          rw [e]; rfl
        | 23, ho =>
          cases ho; cases hg; cases hg1; cases hd
          have e : u = undef := hr
          rw [e]; rfl
        | 24, ho =>
          cases ho; cases hg; cases hg1; cases hd
          have e : u = .bool true := hr
          rw [e]; rfl
        | 25, ho => cases ho; cases hg
        | _ + 26, ho => cases ho
      case skip =>
        intro i o ho hG V w hV hj
        match i, ho with
        | 0, ho => exact absurd hG (by show ¬ (true = false); decide)
        | 1, ho => exact absurd hG (by show ¬ (true = false); decide)
        | 2, ho => exact absurd hG (by show ¬ (true = false); decide)
        | 3, ho => exact absurd hG (by show ¬ (true = false); decide)
        | 4, ho => exact absurd hG (by show ¬ (true = false); decide)
        | 5, ho => exact absurd hG (by show ¬ (true = false); decide)
        | 6, ho => exact absurd hG (by show ¬ (true = false); decide)
        | 7, ho => exact absurd hG (by show ¬ (true = false); decide)
        | 8, ho => exact absurd hG (by show ¬ (true = false); decide)
        | 9, ho => exact absurd hG (by show ¬ (true = false); decide)
        | 10, ho => exact absurd hG (by show ¬ (true = false); decide)
        | 11, ho => exact absurd hG (by show ¬ (true = false); decide)
        | 12, ho => exact absurd hG (by show ¬ (true = false); decide)
        | 13, ho => exact absurd hG (by show ¬ (true = false); decide)
        | 14, ho => exact absurd hG (by show ¬ (true = false); decide)
        | 15, ho => exact absurd hG (by show ¬ (true = false); decide)
        | 16, ho => exact absurd hG (by show ¬ (true = false); decide)
        | 17, ho => cases ho; exact ⟨fun t ht => by cases ht; trivial, hj⟩
        | 18, ho => cases ho; exact ⟨fun t ht => by cases ht; trivial, hj⟩
        | 19, ho => cases ho; exact ⟨fun t ht => by cases ht; trivial, hj⟩
        | 20, ho => cases ho; exact ⟨fun t ht => by cases ht; trivial, hj⟩
        | 21, ho => cases ho; exact ⟨fun t ht => by cases ht; trivial, hj⟩
        | 22, ho => cases ho; exact ⟨fun t ht => by cases ht; trivial, hj⟩
        | 23, ho => cases ho; exact ⟨fun t ht => by cases ht; trivial, hj⟩
        | 24, ho => cases ho; exact ⟨fun t ht => by cases ht; trivial, hj⟩
        | 25, ho => exact absurd hG (by show ¬ (true = false); decide)
        | _ + 26, ho => cases ho
      case step =>
        intro j o ho hG
        match j, ho with
        | 0, ho =>
          cases ho
          intro V aa wx hV hdep hval hj hsm hr
          have e1 : aa.tmps.getD 1 undef = .pointer (some ⟨X, 0, none⟩) := hsm 1 (by decide)
          rw [Array.getD_eq_getD_getElem?] at e1
          unfold Oper.wp
          simp only [execOp, Act.eval, Array.getD_eq_getD_getElem?, e1]
          go_simp
          first | exact ⟨_, rfl, rfl, Below.refl _ _⟩ | exact ⟨_, rfl, rfl, Below.refl _ _, hj⟩ | exact ⟨_, rfl, Below.refl _ _, hj⟩ | exact ⟨_, rfl, hj⟩
        | 1, ho =>
          cases ho
          intro V aa wx hV hdep hval hj hsm hr
          have e7 : aa.tmps.getD 7 undef = .pointer (some ⟨X, 0, none⟩) := hr 7 (by decide) (by apply Array.mem_toList_iff.1; repeat (first | exact List.Mem.head _ | apply List.Mem.tail))
          have hkb := K1.out.below hj K1.out.lt
          have cc0 : wx.cell? ⟨X, 0, none⟩ = some (.int .u8 c.k) := hkb.cell 0
          have cc1 : wx.cell? ⟨X, 1, none⟩ = some (.int .i64 c.co) := hkb.cell 1
          have cc2 : wx.cell? ⟨X, 2, none⟩ = some (.int .i64 c.pe) := hkb.cell 2
          have cc3 : wx.cell? ⟨X, 3, none⟩ = some (.int .i64 c.tg) := hkb.cell 3
          have cc4 : wx.cell? ⟨X, 4, none⟩ = some (.int .i64 c.va) := hkb.cell 4
          have cc5 : wx.cell? ⟨X, 5, none⟩ = some (.int .i64 c.sz) := hkb.cell 5
          have cc6 : wx.cell? ⟨X, 6, none⟩ = some (.int .i64 c.ro) := hkb.cell 6
          have cc7 : wx.cell? ⟨X, 7, none⟩ = some (.int .u8 c.op) := hkb.cell 7
          have cc8 : wx.cell? ⟨X, 8, none⟩ = some (.slice ra c.rq.length rc) := hkb.cell 8
          have cc9 : wx.cell? ⟨X, 9, none⟩ = some (.int .i64 c.cl) := hkb.cell 9
          have cc10 : wx.cell? ⟨X, 10, none⟩ = some (.int .i64 c.ky) := hkb.cell 10
          rw [Array.getD_eq_getD_getElem?] at e7
          unfold Oper.wp
          simp only [execOp, Act.eval, Array.getD_eq_getD_getElem?, e7]
          go_simp
          first | exact ⟨_, rfl, rfl, Below.refl _ _⟩ | exact ⟨_, rfl, rfl, Below.refl _ _, hj⟩ | exact ⟨_, rfl, Below.refl _ _, hj⟩ | exact ⟨_, rfl, hj⟩
        | 2, ho =>
          cases ho
          intro V aa wx hV hdep hval hj hsm hr
          have e8 : aa.tmps.getD 8 undef = .int .u8 c.k := hr 8 (by decide) (by apply Array.mem_toList_iff.1; repeat (first | exact List.Mem.head _ | apply List.Mem.tail))
          rw [Array.getD_eq_getD_getElem?] at e8
          unfold Oper.wp
          simp only [execOp, Act.eval, Array.getD_eq_getD_getElem?, e8]
          go_simp
          refine (UB.out wx).mono ?_
          rintro e w' ⟨rfl, rfl⟩
          exact ⟨_, rfl, rfl, Below.refl _ _, hj⟩
        | 3, ho =>
          cases ho
          intro V aa wx hV hdep hval hj hsm hr
          have e9 : aa.tmps.getD 9 undef = .string U := hr 9 (by decide) (by apply Array.mem_toList_iff.1; repeat (first | exact List.Mem.head _ | apply List.Mem.tail))
          rw [Array.getD_eq_getD_getElem?] at e9
          unfold Oper.wp
          simp only [execOp, Act.eval, Array.getD_eq_getD_getElem?, e9]
          go_simp
          have E := E10.out
          first | exact ⟨_, rfl, rfl, Below.refl _ _⟩ | exact ⟨_, rfl, rfl, Below.refl _ _, hj⟩ | exact ⟨_, rfl, (show Value.bool U.toList.isEmpty = .bool false by rw [E]), Below.refl _ _⟩ | exact ⟨_, rfl, (show Value.bool U.toList.isEmpty = .bool false by rw [E]), Below.refl _ _, hj⟩
        | 4, ho =>
          cases ho
          intro V aa wx hV hdep hval hj hsm hr
          have e10 : aa.tmps.getD 10 undef = .bool false := hr 10 (by decide) (by apply Array.mem_toList_iff.1; repeat (first | exact List.Mem.head _ | apply List.Mem.tail))
          rw [Array.getD_eq_getD_getElem?] at e10
          unfold Oper.wp
          simp only [execOp, Act.eval, Array.getD_eq_getD_getElem?, e10]
          go_simp
          first | exact ⟨_, rfl, rfl, Below.refl _ _⟩ | exact ⟨_, rfl, rfl, Below.refl _ _, hj⟩ | exact ⟨_, rfl, Below.refl _ _, hj⟩ | exact ⟨_, rfl, hj⟩
        | 5, ho =>
          cases ho
          intro V aa wx hV hdep hval hj hsm hr
          have e1 : aa.tmps.getD 1 undef = .pointer (some ⟨X, 0, none⟩) := hsm 1 (by decide)
          have hkb := K1.out.below hj K1.out.lt
          have cc0 : wx.cell? ⟨X, 0, none⟩ = some (.int .u8 c.k) := hkb.cell 0
          have cc1 : wx.cell? ⟨X, 1, none⟩ = some (.int .i64 c.co) := hkb.cell 1
          have cc2 : wx.cell? ⟨X, 2, none⟩ = some (.int .i64 c.pe) := hkb.cell 2
          have cc3 : wx.cell? ⟨X, 3, none⟩ = some (.int .i64 c.tg) := hkb.cell 3
          have cc4 : wx.cell? ⟨X, 4, none⟩ = some (.int .i64 c.va) := hkb.cell 4
          have cc5 : wx.cell? ⟨X, 5, none⟩ = some (.int .i64 c.sz) := hkb.cell 5
          have cc6 : wx.cell? ⟨X, 6, none⟩ = some (.int .i64 c.ro) := hkb.cell 6
          have cc7 : wx.cell? ⟨X, 7, none⟩ = some (.int .u8 c.op) := hkb.cell 7
          have cc8 : wx.cell? ⟨X, 8, none⟩ = some (.slice ra c.rq.length rc) := hkb.cell 8
          have cc9 : wx.cell? ⟨X, 9, none⟩ = some (.int .i64 c.cl) := hkb.cell 9
          have cc10 : wx.cell? ⟨X, 10, none⟩ = some (.int .i64 c.ky) := hkb.cell 10
          rw [Array.getD_eq_getD_getElem?] at e1
          unfold Oper.wp
          simp only [execOp, Act.eval, Array.getD_eq_getD_getElem?, e1]
          go_simp
          first | exact ⟨_, rfl, rfl, Below.refl _ _⟩ | exact ⟨_, rfl, rfl, Below.refl _ _, hj⟩ | exact ⟨_, rfl, Below.refl _ _, hj⟩ | exact ⟨_, rfl, hj⟩
        | 6, ho =>
          cases ho
          intro V aa wx hV hdep hval hj hsm hr
          have e1 : aa.tmps.getD 1 undef = .pointer (some ⟨X, 0, none⟩) := hsm 1 (by decide)
          have hkb := K1.out.below hj K1.out.lt
          have cc0 : wx.cell? ⟨X, 0, none⟩ = some (.int .u8 c.k) := hkb.cell 0
          have cc1 : wx.cell? ⟨X, 1, none⟩ = some (.int .i64 c.co) := hkb.cell 1
          have cc2 : wx.cell? ⟨X, 2, none⟩ = some (.int .i64 c.pe) := hkb.cell 2
          have cc3 : wx.cell? ⟨X, 3, none⟩ = some (.int .i64 c.tg) := hkb.cell 3
          have cc4 : wx.cell? ⟨X, 4, none⟩ = some (.int .i64 c.va) := hkb.cell 4
          have cc5 : wx.cell? ⟨X, 5, none⟩ = some (.int .i64 c.sz) := hkb.cell 5
          have cc6 : wx.cell? ⟨X, 6, none⟩ = some (.int .i64 c.ro) := hkb.cell 6
          have cc7 : wx.cell? ⟨X, 7, none⟩ = some (.int .u8 c.op) := hkb.cell 7
          have cc8 : wx.cell? ⟨X, 8, none⟩ = some (.slice ra c.rq.length rc) := hkb.cell 8
          have cc9 : wx.cell? ⟨X, 9, none⟩ = some (.int .i64 c.cl) := hkb.cell 9
          have cc10 : wx.cell? ⟨X, 10, none⟩ = some (.int .i64 c.ky) := hkb.cell 10
          rw [Array.getD_eq_getD_getElem?] at e1
          unfold Oper.wp
          simp only [execOp, Act.eval, Array.getD_eq_getD_getElem?, e1]
          go_simp
          first | exact ⟨_, rfl, rfl, Below.refl _ _⟩ | exact ⟨_, rfl, rfl, Below.refl _ _, hj⟩ | exact ⟨_, rfl, Below.refl _ _, hj⟩ | exact ⟨_, rfl, hj⟩
        | 7, ho =>
          cases ho
          intro V aa wx hV hdep hval hj hsm hr
          have e13 : aa.tmps.getD 13 undef = .agg #[.int .u8 c.k, .int .i64 c.co, .int .i64 c.pe, .int .i64 c.tg, .int .i64 c.va, .int .i64 c.sz, .int .i64 c.ro, .int .u8 c.op, .slice ra c.rq.length rc, .int .i64 c.cl, .int .i64 c.ky] := hr 13 (by decide) (by apply Array.mem_toList_iff.1; repeat (first | exact List.Mem.head _ | apply List.Mem.tail))
          rw [Array.getD_eq_getD_getElem?] at e13
          unfold Oper.wp
          simp only [execOp, Act.eval, Array.getD_eq_getD_getElem?, e13]
          go_simp
          refine (TRB.out wx (HR1.out.below hj)).mono ?_
          rintro e w' ⟨rb, rd, rfl, hown, hb⟩
          exact ⟨_, rfl, ⟨rb, rd, rfl, own_row hown rfl⟩, hb, hj.trans (hb.mono hj.size)⟩
        | 8, ho =>
          cases ho
          intro V aa wx hV hdep hval hj hsm hr
          have e12 : aa.tmps.getD 12 undef = .agg #[.int .u8 c.k, .int .i64 c.co, .int .i64 c.pe, .int .i64 c.tg, .int .i64 c.va, .int .i64 c.sz, .int .i64 c.ro, .int .u8 c.op, .slice ra c.rq.length rc, .int .i64 c.cl, .int .i64 c.ky] := hr 12 (by decide) (by apply Array.mem_toList_iff.1; repeat (first | exact List.Mem.head _ | apply List.Mem.tail))
          have r14 := hr 14 (by decide) (by apply Array.mem_toList_iff.1; repeat (first | exact List.Mem.head _ | apply List.Mem.tail))
          obtain ⟨rb, rd, e14, hn14⟩ := r14
          have e14 : aa.tmps.getD 14 undef = .agg ((trimC c).A rb rd) := e14
          rw [Array.getD_eq_getD_getElem?] at e12
          rw [Array.getD_eq_getD_getElem?] at e14
          unfold Oper.wp
          simp only [execOp, Act.eval, Array.getD_eq_getD_getElem?, e12, e14]
          go_simp
          refine (Same_b c (trimC c) ra rb rc rd wx (HR1.out.below hj) hn14 HL5.out HTRL.out).mono ?_
          rintro e w' ⟨rfl, hb⟩
          exact ⟨_, rfl, by show Value.bool (decide (c = trimC c)) = .bool _; rw [HBS.out], hb, hj.trans (hb.mono hj.size)⟩
        | 9, ho =>
          cases ho
          intro V aa wx hV hdep hval hj hsm hr
          have e15 : aa.tmps.getD 15 undef = .bool true := hr 15 (by decide) (by apply Array.mem_toList_iff.1; repeat (first | exact List.Mem.head _ | apply List.Mem.tail))
          rw [Array.getD_eq_getD_getElem?] at e15
          unfold Oper.wp
          simp only [execOp, Act.eval, Array.getD_eq_getD_getElem?, e15]
          go_simp
          first | exact ⟨_, rfl, rfl, Below.refl _ _⟩ | exact ⟨_, rfl, rfl, Below.refl _ _, hj⟩ | exact ⟨_, rfl, Below.refl _ _, hj⟩ | exact ⟨_, rfl, hj⟩
        | 10, ho =>
          cases ho
          intro V aa wx hV hdep hval hj hsm hr
          have e11 : aa.tmps.getD 11 undef = .bool false := hr 11 (by decide) (by apply Array.mem_toList_iff.1; repeat (first | exact List.Mem.head _ | apply List.Mem.tail))
          have e16 : aa.tmps.getD 16 undef = .bool false := hr 16 (by decide) (by apply Array.mem_toList_iff.1; repeat (first | exact List.Mem.head _ | apply List.Mem.tail))
          rw [Array.getD_eq_getD_getElem?] at e11
          rw [Array.getD_eq_getD_getElem?] at e16
          unfold Oper.wp
          simp only [execOp, Act.eval, Array.getD_eq_getD_getElem?, e11, e16]
          go_simp
          first | exact ⟨_, rfl, rfl, Below.refl _ _⟩ | exact ⟨_, rfl, rfl, Below.refl _ _, hj⟩ | exact ⟨_, rfl, Below.refl _ _, hj⟩ | exact ⟨_, rfl, hj⟩
        | 11, ho =>
          cases ho
          intro V aa wx hV hdep hval hj hsm hr
          have e17 : aa.tmps.getD 17 undef = .bool false := hr 17 (by decide) (by apply Array.mem_toList_iff.1; repeat (first | exact List.Mem.head _ | apply List.Mem.tail))
          rw [Array.getD_eq_getD_getElem?] at e17
          unfold Oper.wp
          simp only [execOp, Act.eval, Array.getD_eq_getD_getElem?, e17]
          go_simp
          first | exact ⟨_, rfl, rfl, Below.refl _ _⟩ | exact ⟨_, rfl, rfl, Below.refl _ _, hj⟩ | exact ⟨_, rfl, Below.refl _ _, hj⟩ | exact ⟨_, rfl, hj⟩
        | 12, ho =>
          cases ho
          intro V aa wx hV hdep hval hj hsm hr
          have e1 : aa.tmps.getD 1 undef = .pointer (some ⟨X, 0, none⟩) := hsm 1 (by decide)
          rw [Array.getD_eq_getD_getElem?] at e1
          unfold Oper.wp
          simp only [execOp, Act.eval, Array.getD_eq_getD_getElem?, e1]
          go_simp
          first | exact ⟨_, rfl, rfl, Below.refl _ _⟩ | exact ⟨_, rfl, rfl, Below.refl _ _, hj⟩ | exact ⟨_, rfl, Below.refl _ _, hj⟩ | exact ⟨_, rfl, hj⟩
        | 13, ho =>
          cases ho
          intro V aa wx hV hdep hval hj hsm hr
          have e19 : aa.tmps.getD 19 undef = .pointer (some ⟨X, 7, none⟩) := hr 19 (by decide) (by apply Array.mem_toList_iff.1; repeat (first | exact List.Mem.head _ | apply List.Mem.tail))
          have hkb := K1.out.below hj K1.out.lt
          have cc0 : wx.cell? ⟨X, 0, none⟩ = some (.int .u8 c.k) := hkb.cell 0
          have cc1 : wx.cell? ⟨X, 1, none⟩ = some (.int .i64 c.co) := hkb.cell 1
          have cc2 : wx.cell? ⟨X, 2, none⟩ = some (.int .i64 c.pe) := hkb.cell 2
          have cc3 : wx.cell? ⟨X, 3, none⟩ = some (.int .i64 c.tg) := hkb.cell 3
          have cc4 : wx.cell? ⟨X, 4, none⟩ = some (.int .i64 c.va) := hkb.cell 4
          have cc5 : wx.cell? ⟨X, 5, none⟩ = some (.int .i64 c.sz) := hkb.cell 5
          have cc6 : wx.cell? ⟨X, 6, none⟩ = some (.int .i64 c.ro) := hkb.cell 6
          have cc7 : wx.cell? ⟨X, 7, none⟩ = some (.int .u8 c.op) := hkb.cell 7
          have cc8 : wx.cell? ⟨X, 8, none⟩ = some (.slice ra c.rq.length rc) := hkb.cell 8
          have cc9 : wx.cell? ⟨X, 9, none⟩ = some (.int .i64 c.cl) := hkb.cell 9
          have cc10 : wx.cell? ⟨X, 10, none⟩ = some (.int .i64 c.ky) := hkb.cell 10
          rw [Array.getD_eq_getD_getElem?] at e19
          unfold Oper.wp
          simp only [execOp, Act.eval, Array.getD_eq_getD_getElem?, e19]
          go_simp
          first | exact ⟨_, rfl, rfl, Below.refl _ _⟩ | exact ⟨_, rfl, rfl, Below.refl _ _, hj⟩ | exact ⟨_, rfl, Below.refl _ _, hj⟩ | exact ⟨_, rfl, hj⟩
        | 14, ho =>
          cases ho
          intro V aa wx hV hdep hval hj hsm hr
          have e20 : aa.tmps.getD 20 undef = .int .u8 c.op := hr 20 (by decide) (by apply Array.mem_toList_iff.1; repeat (first | exact List.Mem.head _ | apply List.Mem.tail))
          rw [Array.getD_eq_getD_getElem?] at e20
          unfold Oper.wp
          simp only [execOp, Act.eval, Array.getD_eq_getD_getElem?, e20]
          go_simp
          first | exact ⟨_, rfl, rfl, Below.refl _ _⟩ | exact ⟨_, rfl, rfl, Below.refl _ _, hj⟩ | exact ⟨_, rfl, Below.refl _ _, hj⟩ | exact ⟨_, rfl, hj⟩
        | 15, ho =>
          cases ho
          intro V aa wx hV hdep hval hj hsm hr
          have e18 : aa.tmps.getD 18 undef = .bool false := hr 18 (by decide) (by apply Array.mem_toList_iff.1; repeat (first | exact List.Mem.head _ | apply List.Mem.tail))
          have e21 : aa.tmps.getD 21 undef = .bool true := hr 21 (by decide) (by apply Array.mem_toList_iff.1; repeat (first | exact List.Mem.head _ | apply List.Mem.tail))
          rw [Array.getD_eq_getD_getElem?] at e18
          rw [Array.getD_eq_getD_getElem?] at e21
          unfold Oper.wp
          simp only [execOp, Act.eval, Array.getD_eq_getD_getElem?, e18, e21]
          go_simp
          first | exact ⟨_, rfl, rfl, Below.refl _ _⟩ | exact ⟨_, rfl, rfl, Below.refl _ _, hj⟩ | exact ⟨_, rfl, Below.refl _ _, hj⟩ | exact ⟨_, rfl, hj⟩
        | 16, ho =>
          cases ho
          intro V aa wx hV hdep hval hj hsm hr
          have e22 : aa.tmps.getD 22 undef = .bool true := hr 22 (by decide) (by apply Array.mem_toList_iff.1; repeat (first | exact List.Mem.head _ | apply List.Mem.tail))
          rw [Array.getD_eq_getD_getElem?] at e22
          unfold Oper.wp
          simp only [execOp, Act.eval, Array.getD_eq_getD_getElem?, e22]
          go_simp
          first | exact ⟨_, rfl, rfl, Below.refl _ _⟩ | exact ⟨_, rfl, rfl, Below.refl _ _, hj⟩ | exact ⟨_, rfl, Below.refl _ _, hj⟩ | exact ⟨_, rfl, hj⟩
        | 17, ho => exact absurd hG (by show ¬ (false = true); decide)
        | 18, ho => exact absurd hG (by show ¬ (false = true); decide)
        | 19, ho => exact absurd hG (by show ¬ (false = true); decide)
        | 20, ho => exact absurd hG (by show ¬ (false = true); decide)
        | 21, ho => exact absurd hG (by show ¬ (false = true); decide)
        | 22, ho => exact absurd hG (by show ¬ (false = true); decide)
        | 23, ho => exact absurd hG (by show ¬ (false = true); decide)
        | 24, ho => exact absurd hG (by show ¬ (false = true); decide)
        | 25, ho =>
          cases ho
          intro V aa wx hV hdep hval hj hsm hr
          have e23 : aa.tmps.getD 23 undef = .bool true := hr 23 (by decide) (by apply Array.mem_toList_iff.1; repeat (first | exact List.Mem.head _ | apply List.Mem.tail))
          rw [Array.getD_eq_getD_getElem?] at e23
          unfold Oper.wp
          simp only [execOp, Act.eval, Array.getD_eq_getD_getElem?, e23]
          go_simp
          first | exact ⟨_, rfl, rfl, Below.refl _ _⟩ | exact ⟨_, rfl, rfl, Below.refl _ _, hj⟩ | exact ⟨_, rfl, Below.refl _ _, hj⟩ | exact ⟨_, rfl, hj⟩
        | _ + 26, ho => cases ho
      case fin =>
        intro ff V w5 hV hj hr
        have e32 : ff 32 = .bool true := hr 32 (by decide)
        have HB5 := hide (HB1.out.1.trans (hj.mono HB1.out.2))
        clear hV hr
        simp only [putAll, slotsOf, List.filterMap_cons, List.filterMap_nil, List.foldl_cons, List.foldl_nil, Act.put, e32]
        simp only [List.setIfInBounds_toArray, List.set_cons_succ, List.set_cons_zero]
        go_wp2_with fail
        exact bodyPost_ret (v := .tuple #[.string ⟨#[]⟩, .int .i64 160]) (by simp [results, Tryd.results8, go_sem]) rfl ⟨.inr ⟨NT.out, rfl⟩, by rw [HX.out]; exact HB5.out⟩
    · have HOP : Hid (c.op ≤ 2) := hide (by omega)
      have D3 : decide (2 < c.op) = false := decide_eq_false ho3
      obtain ⟨b7, hb7⟩ : ∃ b, hasF c.k 7 = b := ⟨_, rfl⟩
      have HB7 := hide hb7
      have HAS := hide (fun w' => has_yes (k := c.k) (s := usesS c.k) rfl 108 108 rfl (b := b7) (by rw [← (uses_has c.k HNE.out).1]; exact HB7.out) w')
      have KR := hide (uses_has c.k HNE.out).2
      clear ho3 hb7
      cases b7 with
      | true =>
        have KK := hide (KR.out HB7.out)
        obtain ⟨bm, hbm⟩ : ∃ b, decide (manyR c) = b := ⟨_, rfl⟩
        have HBM := hide hbm
        have MA := hide (fun w' => many_0 c.k c.co c.pe c.tg c.va c.sz c.ro c.op c.cl c.ky ra c.rq.length rc w' KK.out bm (by rw [← hbm]; exact decide_eq_true_iff))
        clear hbm
        let R : Nat → Value → World → Prop := fun sl u w1 => match sl with
          | 7 => u = .pointer (some ⟨X, 0, none⟩)
          | 8 => u = .int .u8 c.k
          | 9 => u = .string U
          | 10 => u = .bool false
          | 11 => u = .bool false
          | 12 => u = .agg #[.int .u8 c.k, .int .i64 c.co, .int .i64 c.pe, .int .i64 c.tg, .int .i64 c.va, .int .i64 c.sz, .int .i64 c.ro, .int .u8 c.op, .slice ra c.rq.length rc, .int .i64 c.cl, .int .i64 c.ky]
          | 13 => u = .agg #[.int .u8 c.k, .int .i64 c.co, .int .i64 c.pe, .int .i64 c.tg, .int .i64 c.va, .int .i64 c.sz, .int .i64 c.ro, .int .u8 c.op, .slice ra c.rq.length rc, .int .i64 c.cl, .int .i64 c.ky]
          | 14 => ∃ rb rd, u = .agg ((trimC c).A rb rd) ∧ NRow w1 rb (trimC c).rq
          | 15 => u = .bool true
          | 16 => u = .bool false
          | 17 => u = .bool false
          | 18 => u = .bool false
          | 19 => u = .pointer (some ⟨X, 7, none⟩)
          | 20 => u = .int .u8 c.op
          | 21 => u = .bool false
          | 22 => u = .bool false
          | 23 => u = .bool false
          | 24 => u = .pointer (some ⟨X, 0, none⟩)
          | 25 => u = .int .u8 c.k
          | 26 => u = .bool true
          | 27 => u = .bool true
          | 28 => u = .agg #[.int .u8 c.k, .int .i64 c.co, .int .i64 c.pe, .int .i64 c.tg, .int .i64 c.va, .int .i64 c.sz, .int .i64 c.ro, .int .u8 c.op, .slice ra c.rq.length rc, .int .i64 c.cl, .int .i64 c.ky]
          | 29 => u = .bool bm
          | 30 => u = .bool (!bm)
          | 31 => u = .bool (!bm)
          | 32 => u = .bool (!bm)
          | _ => True
        refine wp_region_relGW [(11, false), (18, false), (23, false), (27, true)] R (fun a b => Below a.heap.size a b) (fun _ w => Below w1.heap.size w1 w) (by kernel_rfl) (by kernel_rfl) (by kernel_rfl) (by kernel_rfl) ?mono (fun w => Below.refl _ _) ((Below.refl _ _).drew) ?gs ?step ?fin
        case mono =>
          intro sl u wx wy h hk
          match sl with
          | 14 =>
            obtain ⟨rb, rd, h1, h2⟩ := h
            exact ⟨rb, rd, h1, h2.below hk⟩
          | 0 | 1 | 2 | 3 | 4 | 5 | 6 | 7 | 8 | 9 | 10 | 11 | 12 | 13 | 15 | 16 | 17 | 18 | 19 | 20 | 21 | 22 | 23 | 24 | 25 | 26 | 27 | 28 | 29 | 30 | 31 | 32 | _ + 33 => exact h
        case gs =>
          intro p hp u w1 h
          simp only [List.mem_cons, List.not_mem_nil, or_false] at hp
          rcases hp with rfl | rfl | rfl | rfl <;> exact h
        case step =>
          intro j o ho
          match j, ho with
          | 0, ho =>
            cases ho
            intro V aa wx hV hdep hval hj hsm hr
            have e1 : aa.tmps.getD 1 undef = .pointer (some ⟨X, 0, none⟩) := hsm 1 (by decide)
            rw [Array.getD_eq_getD_getElem?] at e1
            unfold Oper.wp
            simp only [execOp, Act.eval, Array.getD_eq_getD_getElem?, e1]
            go_simp
            first | exact ⟨_, rfl, rfl, Below.refl _ _⟩ | exact ⟨_, rfl, rfl, Below.refl _ _, hj⟩ | exact ⟨_, rfl, Below.refl _ _, hj⟩ | exact ⟨_, rfl, hj⟩
          | 1, ho =>
            cases ho
            intro V aa wx hV hdep hval hj hsm hr
            have e7 : aa.tmps.getD 7 undef = .pointer (some ⟨X, 0, none⟩) := hr 7 (by decide) (by apply Array.mem_toList_iff.1; repeat (first | exact List.Mem.head _ | apply List.Mem.tail))
            have hkb := K1.out.below hj K1.out.lt
            have cc0 : wx.cell? ⟨X, 0, none⟩ = some (.int .u8 c.k) := hkb.cell 0
            have cc1 : wx.cell? ⟨X, 1, none⟩ = some (.int .i64 c.co) := hkb.cell 1
            have cc2 : wx.cell? ⟨X, 2, none⟩ = some (.int .i64 c.pe) := hkb.cell 2
            have cc3 : wx.cell? ⟨X, 3, none⟩ = some (.int .i64 c.tg) := hkb.cell 3
            have cc4 : wx.cell? ⟨X, 4, none⟩ = some (.int .i64 c.va) := hkb.cell 4
            have cc5 : wx.cell? ⟨X, 5, none⟩ = some (.int .i64 c.sz) := hkb.cell 5
            have cc6 : wx.cell? ⟨X, 6, none⟩ = some (.int .i64 c.ro) := hkb.cell 6
            have cc7 : wx.cell? ⟨X, 7, none⟩ = some (.int .u8 c.op) := hkb.cell 7
            have cc8 : wx.cell? ⟨X, 8, none⟩ = some (.slice ra c.rq.length rc) := hkb.cell 8
            have cc9 : wx.cell? ⟨X, 9, none⟩ = some (.int .i64 c.cl) := hkb.cell 9
            have cc10 : wx.cell? ⟨X, 10, none⟩ = some (.int .i64 c.ky) := hkb.cell 10
            rw [Array.getD_eq_getD_getElem?] at e7
            unfold Oper.wp
            simp only [execOp, Act.eval, Array.getD_eq_getD_getElem?, e7]
            go_simp
            first | exact ⟨_, rfl, rfl, Below.refl _ _⟩ | exact ⟨_, rfl, rfl, Below.refl _ _, hj⟩ | exact ⟨_, rfl, Below.refl _ _, hj⟩ | exact ⟨_, rfl, hj⟩
          | 2, ho =>
            cases ho
            intro V aa wx hV hdep hval hj hsm hr
            have e8 : aa.tmps.getD 8 undef = .int .u8 c.k := hr 8 (by decide) (by apply Array.mem_toList_iff.1; repeat (first | exact List.Mem.head _ | apply List.Mem.tail))
            rw [Array.getD_eq_getD_getElem?] at e8
            unfold Oper.wp
            simp only [execOp, Act.eval, Array.getD_eq_getD_getElem?, e8]
            go_simp
            refine (UB.out wx).mono ?_
            rintro e w' ⟨rfl, rfl⟩
            exact ⟨_, rfl, rfl, Below.refl _ _, hj⟩
          | 3, ho =>
            cases ho
            intro V aa wx hV hdep hval hj hsm hr
            have e9 : aa.tmps.getD 9 undef = .string U := hr 9 (by decide) (by apply Array.mem_toList_iff.1; repeat (first | exact List.Mem.head _ | apply List.Mem.tail))
            rw [Array.getD_eq_getD_getElem?] at e9
            unfold Oper.wp
            simp only [execOp, Act.eval, Array.getD_eq_getD_getElem?, e9]
            go_simp
            have E := E10.out
            first | exact ⟨_, rfl, rfl, Below.refl _ _⟩ | exact ⟨_, rfl, rfl, Below.refl _ _, hj⟩ | exact ⟨_, rfl, (show Value.bool U.toList.isEmpty = .bool false by rw [E]), Below.refl _ _⟩ | exact ⟨_, rfl, (show Value.bool U.toList.isEmpty = .bool false by rw [E]), Below.refl _ _, hj⟩
          | 4, ho =>
            cases ho
            intro V aa wx hV hdep hval hj hsm hr
            have e10 : aa.tmps.getD 10 undef = .bool false := hr 10 (by decide) (by apply Array.mem_toList_iff.1; repeat (first | exact List.Mem.head _ | apply List.Mem.tail))
            rw [Array.getD_eq_getD_getElem?] at e10
            unfold Oper.wp
            simp only [execOp, Act.eval, Array.getD_eq_getD_getElem?, e10]
            go_simp
            first | exact ⟨_, rfl, rfl, Below.refl _ _⟩ | exact ⟨_, rfl, rfl, Below.refl _ _, hj⟩ | exact ⟨_, rfl, Below.refl _ _, hj⟩ | exact ⟨_, rfl, hj⟩
          | 5, ho =>
            cases ho
            intro V aa wx hV hdep hval hj hsm hr
            have e1 : aa.tmps.getD 1 undef = .pointer (some ⟨X, 0, none⟩) := hsm 1 (by decide)
            have hkb := K1.out.below hj K1.out.lt
            have cc0 : wx.cell? ⟨X, 0, none⟩ = some (.int .u8 c.k) := hkb.cell 0
            have cc1 : wx.cell? ⟨X, 1, none⟩ = some (.int .i64 c.co) := hkb.cell 1
            have cc2 : wx.cell? ⟨X, 2, none⟩ = some (.int .i64 c.pe) := hkb.cell 2
            have cc3 : wx.cell? ⟨X, 3, none⟩ = some (.int .i64 c.tg) := hkb.cell 3
            have cc4 : wx.cell? ⟨X, 4, none⟩ = some (.int .i64 c.va) := hkb.cell 4
            have cc5 : wx.cell? ⟨X, 5, none⟩ = some (.int .i64 c.sz) := hkb.cell 5
            have cc6 : wx.cell? ⟨X, 6, none⟩ = some (.int .i64 c.ro) := hkb.cell 6
            have cc7 : wx.cell? ⟨X, 7, none⟩ = some (.int .u8 c.op) := hkb.cell 7
            have cc8 : wx.cell? ⟨X, 8, none⟩ = some (.slice ra c.rq.length rc) := hkb.cell 8
            have cc9 : wx.cell? ⟨X, 9, none⟩ = some (.int .i64 c.cl) := hkb.cell 9
            have cc10 : wx.cell? ⟨X, 10, none⟩ = some (.int .i64 c.ky) := hkb.cell 10
            rw [Array.getD_eq_getD_getElem?] at e1
            unfold Oper.wp
            simp only [execOp, Act.eval, Array.getD_eq_getD_getElem?, e1]
            go_simp
            first | exact ⟨_, rfl, rfl, Below.refl _ _⟩ | exact ⟨_, rfl, rfl, Below.refl _ _, hj⟩ | exact ⟨_, rfl, Below.refl _ _, hj⟩ | exact ⟨_, rfl, hj⟩
          | 6, ho =>
            cases ho
            intro V aa wx hV hdep hval hj hsm hr
            have e1 : aa.tmps.getD 1 undef = .pointer (some ⟨X, 0, none⟩) := hsm 1 (by decide)
            have hkb := K1.out.below hj K1.out.lt
            have cc0 : wx.cell? ⟨X, 0, none⟩ = some (.int .u8 c.k) := hkb.cell 0
            have cc1 : wx.cell? ⟨X, 1, none⟩ = some (.int .i64 c.co) := hkb.cell 1
            have cc2 : wx.cell? ⟨X, 2, none⟩ = some (.int .i64 c.pe) := hkb.cell 2
            have cc3 : wx.cell? ⟨X, 3, none⟩ = some (.int .i64 c.tg) := hkb.cell 3
            have cc4 : wx.cell? ⟨X, 4, none⟩ = some (.int .i64 c.va) := hkb.cell 4
            have cc5 : wx.cell? ⟨X, 5, none⟩ = some (.int .i64 c.sz) := hkb.cell 5
            have cc6 : wx.cell? ⟨X, 6, none⟩ = some (.int .i64 c.ro) := hkb.cell 6
            have cc7 : wx.cell? ⟨X, 7, none⟩ = some (.int .u8 c.op) := hkb.cell 7
            have cc8 : wx.cell? ⟨X, 8, none⟩ = some (.slice ra c.rq.length rc) := hkb.cell 8
            have cc9 : wx.cell? ⟨X, 9, none⟩ = some (.int .i64 c.cl) := hkb.cell 9
            have cc10 : wx.cell? ⟨X, 10, none⟩ = some (.int .i64 c.ky) := hkb.cell 10
            rw [Array.getD_eq_getD_getElem?] at e1
            unfold Oper.wp
            simp only [execOp, Act.eval, Array.getD_eq_getD_getElem?, e1]
            go_simp
            first | exact ⟨_, rfl, rfl, Below.refl _ _⟩ | exact ⟨_, rfl, rfl, Below.refl _ _, hj⟩ | exact ⟨_, rfl, Below.refl _ _, hj⟩ | exact ⟨_, rfl, hj⟩
          | 7, ho =>
            cases ho
            intro V aa wx hV hdep hval hj hsm hr
            have e13 : aa.tmps.getD 13 undef = .agg #[.int .u8 c.k, .int .i64 c.co, .int .i64 c.pe, .int .i64 c.tg, .int .i64 c.va, .int .i64 c.sz, .int .i64 c.ro, .int .u8 c.op, .slice ra c.rq.length rc, .int .i64 c.cl, .int .i64 c.ky] := hr 13 (by decide) (by apply Array.mem_toList_iff.1; repeat (first | exact List.Mem.head _ | apply List.Mem.tail))
            rw [Array.getD_eq_getD_getElem?] at e13
            unfold Oper.wp
            simp only [execOp, Act.eval, Array.getD_eq_getD_getElem?, e13]
            go_simp
            refine (TRB.out wx (HR1.out.below hj)).mono ?_
            rintro e w' ⟨rb, rd, rfl, hown, hb⟩
            exact ⟨_, rfl, ⟨rb, rd, rfl, own_row hown rfl⟩, hb, hj.trans (hb.mono hj.size)⟩
          | 8, ho =>
            cases ho
            intro V aa wx hV hdep hval hj hsm hr
            have e12 : aa.tmps.getD 12 undef = .agg #[.int .u8 c.k, .int .i64 c.co, .int .i64 c.pe, .int .i64 c.tg, .int .i64 c.va, .int .i64 c.sz, .int .i64 c.ro, .int .u8 c.op, .slice ra c.rq.length rc, .int .i64 c.cl, .int .i64 c.ky] := hr 12 (by decide) (by apply Array.mem_toList_iff.1; repeat (first | exact List.Mem.head _ | apply List.Mem.tail))
            have r14 := hr 14 (by decide) (by apply Array.mem_toList_iff.1; repeat (first | exact List.Mem.head _ | apply List.Mem.tail))
            obtain ⟨rb, rd, e14, hn14⟩ := r14
            have e14 : aa.tmps.getD 14 undef = .agg ((trimC c).A rb rd) := e14
            rw [Array.getD_eq_getD_getElem?] at e12
            rw [Array.getD_eq_getD_getElem?] at e14
            unfold Oper.wp
            simp only [execOp, Act.eval, Array.getD_eq_getD_getElem?, e12, e14]
            go_simp
            refine (Same_b c (trimC c) ra rb rc rd wx (HR1.out.below hj) hn14 HL5.out HTRL.out).mono ?_
            rintro e w' ⟨rfl, hb⟩
            exact ⟨_, rfl, by show Value.bool (decide (c = trimC c)) = .bool _; rw [HBS.out], hb, hj.trans (hb.mono hj.size)⟩
          | 9, ho =>
            cases ho
            intro V aa wx hV hdep hval hj hsm hr
            have e15 : aa.tmps.getD 15 undef = .bool true := hr 15 (by decide) (by apply Array.mem_toList_iff.1; repeat (first | exact List.Mem.head _ | apply List.Mem.tail))
            rw [Array.getD_eq_getD_getElem?] at e15
            unfold Oper.wp
            simp only [execOp, Act.eval, Array.getD_eq_getD_getElem?, e15]
            go_simp
            first | exact ⟨_, rfl, rfl, Below.refl _ _⟩ | exact ⟨_, rfl, rfl, Below.refl _ _, hj⟩ | exact ⟨_, rfl, Below.refl _ _, hj⟩ | exact ⟨_, rfl, hj⟩
          | 10, ho =>
            cases ho
            intro V aa wx hV hdep hval hj hsm hr
            have e11 : aa.tmps.getD 11 undef = .bool false := hr 11 (by decide) (by apply Array.mem_toList_iff.1; repeat (first | exact List.Mem.head _ | apply List.Mem.tail))
            have e16 : aa.tmps.getD 16 undef = .bool false := hr 16 (by decide) (by apply Array.mem_toList_iff.1; repeat (first | exact List.Mem.head _ | apply List.Mem.tail))
            rw [Array.getD_eq_getD_getElem?] at e11
            rw [Array.getD_eq_getD_getElem?] at e16
            unfold Oper.wp
            simp only [execOp, Act.eval, Array.getD_eq_getD_getElem?, e11, e16]
            go_simp
            first | exact ⟨_, rfl, rfl, Below.refl _ _⟩ | exact ⟨_, rfl, rfl, Below.refl _ _, hj⟩ | exact ⟨_, rfl, Below.refl _ _, hj⟩ | exact ⟨_, rfl, hj⟩
          | 11, ho =>
            cases ho
            intro V aa wx hV hdep hval hj hsm hr
            have e17 : aa.tmps.getD 17 undef = .bool false := hr 17 (by decide) (by apply Array.mem_toList_iff.1; repeat (first | exact List.Mem.head _ | apply List.Mem.tail))
            rw [Array.getD_eq_getD_getElem?] at e17
            unfold Oper.wp
            simp only [execOp, Act.eval, Array.getD_eq_getD_getElem?, e17]
            go_simp
            first | exact ⟨_, rfl, rfl, Below.refl _ _⟩ | exact ⟨_, rfl, rfl, Below.refl _ _, hj⟩ | exact ⟨_, rfl, Below.refl _ _, hj⟩ | exact ⟨_, rfl, hj⟩
          | 12, ho =>
            cases ho
            intro V aa wx hV hdep hval hj hsm hr
            have e1 : aa.tmps.getD 1 undef = .pointer (some ⟨X, 0, none⟩) := hsm 1 (by decide)
            rw [Array.getD_eq_getD_getElem?] at e1
            unfold Oper.wp
            simp only [execOp, Act.eval, Array.getD_eq_getD_getElem?, e1]
            go_simp
            first | exact ⟨_, rfl, rfl, Below.refl _ _⟩ | exact ⟨_, rfl, rfl, Below.refl _ _, hj⟩ | exact ⟨_, rfl, Below.refl _ _, hj⟩ | exact ⟨_, rfl, hj⟩
          | 13, ho =>
            cases ho
            intro V aa wx hV hdep hval hj hsm hr
            have e19 : aa.tmps.getD 19 undef = .pointer (some ⟨X, 7, none⟩) := hr 19 (by decide) (by apply Array.mem_toList_iff.1; repeat (first | exact List.Mem.head _ | apply List.Mem.tail))
            have hkb := K1.out.below hj K1.out.lt
            have cc0 : wx.cell? ⟨X, 0, none⟩ = some (.int .u8 c.k) := hkb.cell 0
            have cc1 : wx.cell? ⟨X, 1, none⟩ = some (.int .i64 c.co) := hkb.cell 1
            have cc2 : wx.cell? ⟨X, 2, none⟩ = some (.int .i64 c.pe) := hkb.cell 2
            have cc3 : wx.cell? ⟨X, 3, none⟩ = some (.int .i64 c.tg) := hkb.cell 3
            have cc4 : wx.cell? ⟨X, 4, none⟩ = some (.int .i64 c.va) := hkb.cell 4
            have cc5 : wx.cell? ⟨X, 5, none⟩ = some (.int .i64 c.sz) := hkb.cell 5
            have cc6 : wx.cell? ⟨X, 6, none⟩ = some (.int .i64 c.ro) := hkb.cell 6
            have cc7 : wx.cell? ⟨X, 7, none⟩ = some (.int .u8 c.op) := hkb.cell 7
            have cc8 : wx.cell? ⟨X, 8, none⟩ = some (.slice ra c.rq.length rc) := hkb.cell 8
            have cc9 : wx.cell? ⟨X, 9, none⟩ = some (.int .i64 c.cl) := hkb.cell 9
            have cc10 : wx.cell? ⟨X, 10, none⟩ = some (.int .i64 c.ky) := hkb.cell 10
            rw [Array.getD_eq_getD_getElem?] at e19
            unfold Oper.wp
            simp only [execOp, Act.eval, Array.getD_eq_getD_getElem?, e19]
            go_simp
            first | exact ⟨_, rfl, rfl, Below.refl _ _⟩ | exact ⟨_, rfl, rfl, Below.refl _ _, hj⟩ | exact ⟨_, rfl, Below.refl _ _, hj⟩ | exact ⟨_, rfl, hj⟩
          | 14, ho =>
            cases ho
            intro V aa wx hV hdep hval hj hsm hr
            have e20 : aa.tmps.getD 20 undef = .int .u8 c.op := hr 20 (by decide) (by apply Array.mem_toList_iff.1; repeat (first | exact List.Mem.head _ | apply List.Mem.tail))
            rw [Array.getD_eq_getD_getElem?] at e20
            unfold Oper.wp
            simp only [execOp, Act.eval, Array.getD_eq_getD_getElem?, e20]
            go_simp
            first | exact ⟨_, rfl, rfl, Below.refl _ _⟩ | exact ⟨_, rfl, rfl, Below.refl _ _, hj⟩ | exact ⟨_, rfl, Below.refl _ _, hj⟩ | exact ⟨_, rfl, hj⟩
          | 15, ho =>
            cases ho
            intro V aa wx hV hdep hval hj hsm hr
            have e18 : aa.tmps.getD 18 undef = .bool false := hr 18 (by decide) (by apply Array.mem_toList_iff.1; repeat (first | exact List.Mem.head _ | apply List.Mem.tail))
            have e21 : aa.tmps.getD 21 undef = .bool false := hr 21 (by decide) (by apply Array.mem_toList_iff.1; repeat (first | exact List.Mem.head _ | apply List.Mem.tail))
            rw [Array.getD_eq_getD_getElem?] at e18
            rw [Array.getD_eq_getD_getElem?] at e21
            unfold Oper.wp
            simp only [execOp, Act.eval, Array.getD_eq_getD_getElem?, e18, e21]
            go_simp
            first | exact ⟨_, rfl, rfl, Below.refl _ _⟩ | exact ⟨_, rfl, rfl, Below.refl _ _, hj⟩ | exact ⟨_, rfl, Below.refl _ _, hj⟩ | exact ⟨_, rfl, hj⟩
          | 16, ho =>
            cases ho
            intro V aa wx hV hdep hval hj hsm hr
            have e22 : aa.tmps.getD 22 undef = .bool false := hr 22 (by decide) (by apply Array.mem_toList_iff.1; repeat (first | exact List.Mem.head _ | apply List.Mem.tail))
            rw [Array.getD_eq_getD_getElem?] at e22
            unfold Oper.wp
            simp only [execOp, Act.eval, Array.getD_eq_getD_getElem?, e22]
            go_simp
            first | exact ⟨_, rfl, rfl, Below.refl _ _⟩ | exact ⟨_, rfl, rfl, Below.refl _ _, hj⟩ | exact ⟨_, rfl, Below.refl _ _, hj⟩ | exact ⟨_, rfl, hj⟩
          | 17, ho =>
            cases ho
            intro V aa wx hV hdep hval hj hsm hr
            have e1 : aa.tmps.getD 1 undef = .pointer (some ⟨X, 0, none⟩) := hsm 1 (by decide)
            rw [Array.getD_eq_getD_getElem?] at e1
            unfold Oper.wp
            simp only [execOp, Act.eval, Array.getD_eq_getD_getElem?, e1]
            go_simp
            first | exact ⟨_, rfl, rfl, Below.refl _ _⟩ | exact ⟨_, rfl, rfl, Below.refl _ _, hj⟩ | exact ⟨_, rfl, Below.refl _ _, hj⟩ | exact ⟨_, rfl, hj⟩
          | 18, ho =>
            cases ho
            intro V aa wx hV hdep hval hj hsm hr
            have e24 : aa.tmps.getD 24 undef = .pointer (some ⟨X, 0, none⟩) := hr 24 (by decide) (by apply Array.mem_toList_iff.1; repeat (first | exact List.Mem.head _ | apply List.Mem.tail))
            have hkb := K1.out.below hj K1.out.lt
            have cc0 : wx.cell? ⟨X, 0, none⟩ = some (.int .u8 c.k) := hkb.cell 0
            have cc1 : wx.cell? ⟨X, 1, none⟩ = some (.int .i64 c.co) := hkb.cell 1
            have cc2 : wx.cell? ⟨X, 2, none⟩ = some (.int .i64 c.pe) := hkb.cell 2
            have cc3 : wx.cell? ⟨X, 3, none⟩ = some (.int .i64 c.tg) := hkb.cell 3
            have cc4 : wx.cell? ⟨X, 4, none⟩ = some (.int .i64 c.va) := hkb.cell 4
            have cc5 : wx.cell? ⟨X, 5, none⟩ = some (.int .i64 c.sz) := hkb.cell 5
            have cc6 : wx.cell? ⟨X, 6, none⟩ = some (.int .i64 c.ro) := hkb.cell 6
            have cc7 : wx.cell? ⟨X, 7, none⟩ = some (.int .u8 c.op) := hkb.cell 7
            have cc8 : wx.cell? ⟨X, 8, none⟩ = some (.slice ra c.rq.length rc) := hkb.cell 8
            have cc9 : wx.cell? ⟨X, 9, none⟩ = some (.int .i64 c.cl) := hkb.cell 9
            have cc10 : wx.cell? ⟨X, 10, none⟩ = some (.int .i64 c.ky) := hkb.cell 10
            rw [Array.getD_eq_getD_getElem?] at e24
            unfold Oper.wp
            simp only [execOp, Act.eval, Array.getD_eq_getD_getElem?, e24]
            go_simp
            first | exact ⟨_, rfl, rfl, Below.refl _ _⟩ | exact ⟨_, rfl, rfl, Below.refl _ _, hj⟩ | exact ⟨_, rfl, Below.refl _ _, hj⟩ | exact ⟨_, rfl, hj⟩
          | 19, ho =>
            cases ho
            intro V aa wx hV hdep hval hj hsm hr
            have e25 : aa.tmps.getD 25 undef = .int .u8 c.k := hr 25 (by decide) (by apply Array.mem_toList_iff.1; repeat (first | exact List.Mem.head _ | apply List.Mem.tail))
            rw [Array.getD_eq_getD_getElem?] at e25
            unfold Oper.wp
            simp only [execOp, Act.eval, Array.getD_eq_getD_getElem?, e25]
            go_simp
            refine (HAS.out wx).mono ?_
            rintro e w' ⟨rfl, rfl⟩
            exact ⟨_, rfl, rfl, Below.refl _ _, hj⟩
          | 20, ho =>
            cases ho
            intro V aa wx hV hdep hval hj hsm hr
            have e26 : aa.tmps.getD 26 undef = .bool true := hr 26 (by decide) (by apply Array.mem_toList_iff.1; repeat (first | exact List.Mem.head _ | apply List.Mem.tail))
            rw [Array.getD_eq_getD_getElem?] at e26
            unfold Oper.wp
            simp only [execOp, Act.eval, Array.getD_eq_getD_getElem?, e26]
            go_simp
            first | exact ⟨_, rfl, rfl, Below.refl _ _⟩ | exact ⟨_, rfl, rfl, Below.refl _ _, hj⟩ | exact ⟨_, rfl, Below.refl _ _, hj⟩ | exact ⟨_, rfl, hj⟩
          | 21, ho =>
            cases ho
            intro V aa wx hV hdep hval hj hsm hr
            have e1 : aa.tmps.getD 1 undef = .pointer (some ⟨X, 0, none⟩) := hsm 1 (by decide)
            have hkb := K1.out.below hj K1.out.lt
            have cc0 : wx.cell? ⟨X, 0, none⟩ = some (.int .u8 c.k) := hkb.cell 0
            have cc1 : wx.cell? ⟨X, 1, none⟩ = some (.int .i64 c.co) := hkb.cell 1
            have cc2 : wx.cell? ⟨X, 2, none⟩ = some (.int .i64 c.pe) := hkb.cell 2
            have cc3 : wx.cell? ⟨X, 3, none⟩ = some (.int .i64 c.tg) := hkb.cell 3
            have cc4 : wx.cell? ⟨X, 4, none⟩ = some (.int .i64 c.va) := hkb.cell 4
            have cc5 : wx.cell? ⟨X, 5, none⟩ = some (.int .i64 c.sz) := hkb.cell 5
            have cc6 : wx.cell? ⟨X, 6, none⟩ = some (.int .i64 c.ro) := hkb.cell 6
            have cc7 : wx.cell? ⟨X, 7, none⟩ = some (.int .u8 c.op) := hkb.cell 7
            have cc8 : wx.cell? ⟨X, 8, none⟩ = some (.slice ra c.rq.length rc) := hkb.cell 8
            have cc9 : wx.cell? ⟨X, 9, none⟩ = some (.int .i64 c.cl) := hkb.cell 9
            have cc10 : wx.cell? ⟨X, 10, none⟩ = some (.int .i64 c.ky) := hkb.cell 10
            rw [Array.getD_eq_getD_getElem?] at e1
            unfold Oper.wp
            simp only [execOp, Act.eval, Array.getD_eq_getD_getElem?, e1]
            go_simp
            first | exact ⟨_, rfl, rfl, Below.refl _ _⟩ | exact ⟨_, rfl, rfl, Below.refl _ _, hj⟩ | exact ⟨_, rfl, Below.refl _ _, hj⟩ | exact ⟨_, rfl, hj⟩
          | 22, ho =>
            cases ho
            intro V aa wx hV hdep hval hj hsm hr
            have e28 : aa.tmps.getD 28 undef = .agg #[.int .u8 c.k, .int .i64 c.co, .int .i64 c.pe, .int .i64 c.tg, .int .i64 c.va, .int .i64 c.sz, .int .i64 c.ro, .int .u8 c.op, .slice ra c.rq.length rc, .int .i64 c.cl, .int .i64 c.ky] := hr 28 (by decide) (by apply Array.mem_toList_iff.1; repeat (first | exact List.Mem.head _ | apply List.Mem.tail))
            rw [Array.getD_eq_getD_getElem?] at e28
            unfold Oper.wp
            simp only [execOp, Act.eval, Array.getD_eq_getD_getElem?, e28]
            go_simp
            refine (MA.out wx).mono ?_
            rintro e w' ⟨rfl, hb⟩
            exact ⟨_, rfl, rfl, hb, hj.trans (hb.mono hj.size)⟩
          | 23, ho =>
            cases ho
            intro V aa wx hV hdep hval hj hsm hr
            have e29 : aa.tmps.getD 29 undef = .bool bm := hr 29 (by decide) (by apply Array.mem_toList_iff.1; repeat (first | exact List.Mem.head _ | apply List.Mem.tail))
            rw [Array.getD_eq_getD_getElem?] at e29
            unfold Oper.wp
            simp only [execOp, Act.eval, Array.getD_eq_getD_getElem?, e29]
            go_simp
            first | exact ⟨_, rfl, rfl, Below.refl _ _⟩ | exact ⟨_, rfl, rfl, Below.refl _ _, hj⟩ | exact ⟨_, rfl, Below.refl _ _, hj⟩ | exact ⟨_, rfl, hj⟩
          | 24, ho =>
            cases ho
            intro V aa wx hV hdep hval hj hsm hr
            have e27 : aa.tmps.getD 27 undef = .bool true := hr 27 (by decide) (by apply Array.mem_toList_iff.1; repeat (first | exact List.Mem.head _ | apply List.Mem.tail))
            have e30 : aa.tmps.getD 30 undef = .bool (!bm) := hr 30 (by decide) (by apply Array.mem_toList_iff.1; repeat (first | exact List.Mem.head _ | apply List.Mem.tail))
            rw [Array.getD_eq_getD_getElem?] at e27
            rw [Array.getD_eq_getD_getElem?] at e30
            unfold Oper.wp
            simp only [execOp, Act.eval, Array.getD_eq_getD_getElem?, e27, e30]
            go_simp
            first | exact ⟨_, rfl, rfl, Below.refl _ _⟩ | exact ⟨_, rfl, rfl, Below.refl _ _, hj⟩ | exact ⟨_, rfl, Below.refl _ _, hj⟩ | exact ⟨_, rfl, hj⟩
          | 25, ho =>
            cases ho
            intro V aa wx hV hdep hval hj hsm hr
            have e23 : aa.tmps.getD 23 undef = .bool false := hr 23 (by decide) (by apply Array.mem_toList_iff.1; repeat (first | exact List.Mem.head _ | apply List.Mem.tail))
            have e31 : aa.tmps.getD 31 undef = .bool (!bm) := hr 31 (by decide) (by apply Array.mem_toList_iff.1; repeat (first | exact List.Mem.head _ | apply List.Mem.tail))
            rw [Array.getD_eq_getD_getElem?] at e23
            rw [Array.getD_eq_getD_getElem?] at e31
            unfold Oper.wp
            simp only [execOp, Act.eval, Array.getD_eq_getD_getElem?, e23, e31]
            go_simp
            first | exact ⟨_, rfl, rfl, Below.refl _ _⟩ | exact ⟨_, rfl, rfl, Below.refl _ _, hj⟩ | exact ⟨_, rfl, Below.refl _ _, hj⟩ | exact ⟨_, rfl, hj⟩
          | _ + 26, ho => cases ho
        case fin =>
          intro ff V w5 hV hj hr
          have e32 : ff 32 = .bool (!bm) := hr 32 (by decide)
          have HB5 := hide (HB1.out.1.trans (hj.mono HB1.out.2))
          clear hV hr
          simp only [putAll, slotsOf, List.filterMap_cons, List.filterMap_nil, List.foldl_cons, List.foldl_nil, Act.put, e32]
          simp only [List.setIfInBounds_toArray, List.set_cons_succ, List.set_cons_zero]
          cases bm with
          | false =>
            have NT : Hid (¬ hasText c) := hide (fun h => (of_decide_eq_false HBM.out) (h.2.2.2 HB7.out))
            go_wp2_with fail
            exact bodyPost_ret (v := .tuple #[.string ⟨#[]⟩, .int .i64 160]) (by simp [results, Tryd.results8, go_sem]) rfl ⟨.inr ⟨NT.out, rfl⟩, by rw [HX.out]; exact HB5.out⟩
          | true =>
            have TXT : Hid (hasText c) := hide ⟨HNE.out, HTR.out, HOP.out, fun _ => of_decide_eq_true HBM.out⟩
            have K5 := hide (K1.out.below hj K1.out.lt)
            have HR5 := hide (HR1.out.below hj)
            have HX5 : Hid (X ≤ w5.heap.size) := hide (Nat.le_trans HB1.out.2 hj.size)
            have KC := hide (used_kind HNE.out)
            have WB := hide (word_b c.k KC.out w5)
            have z1 : (bytes (wordL c.k)).size ≤ 10 := by rw [bytes_size]; exact word_len _
            have d40 : (⟨#[40]⟩ : ByteArray).size = 1 := rfl
            have m40 : ¬ 9223372036854775807 < (bytes (wordL c.k)).size + 1 := by omega
            have T0 : Hid (bytes (wordL c.k) ++ ⟨#[40]⟩ = bytes (txB c 0)) := hide (by rw [txB_0, show (⟨#[40]⟩ : ByteArray) = bytes [40] from rfl, bytes_app])
            have q0 : w5.cell? ⟨X, 0, none⟩ = some (.int .u8 c.k) := K5.out.cell 0
            have q1 : w5.cell? ⟨X, 1, none⟩ = some (.int .i64 c.co) := K5.out.cell 1
            have q2 : w5.cell? ⟨X, 2, none⟩ = some (.int .i64 c.pe) := K5.out.cell 2
            have q3 : w5.cell? ⟨X, 3, none⟩ = some (.int .i64 c.tg) := K5.out.cell 3
            have q4 : w5.cell? ⟨X, 4, none⟩ = some (.int .i64 c.va) := K5.out.cell 4
            have q5 : w5.cell? ⟨X, 5, none⟩ = some (.int .i64 c.sz) := K5.out.cell 5
            have q6 : w5.cell? ⟨X, 6, none⟩ = some (.int .i64 c.ro) := K5.out.cell 6
            have q7 : w5.cell? ⟨X, 7, none⟩ = some (.int .u8 c.op) := K5.out.cell 7
            have q8 : w5.cell? ⟨X, 8, none⟩ = some (.slice ra c.rq.length rc) := K5.out.cell 8
            have q9 : w5.cell? ⟨X, 9, none⟩ = some (.int .i64 c.cl) := K5.out.cell 9
            have q10 : w5.cell? ⟨X, 10, none⟩ = some (.int .i64 c.ky) := K5.out.cell 10
            clear hj
            go_wp2_with fail
            refine WB.out.mono ?_
            rintro e w6 ⟨rfl, hb6⟩
            have HB6 := hide (And.intro (HB5.out.trans (hb6.mono HX5.out)) (Nat.le_trans HX5.out hb6.size))
            have K6 := hide (K5.out.below hb6 K5.out.lt)
            have HR6 := hide (HR5.out.below hb6)
            clear hb6 WB q0 q1 q2 q3 q4 q5 q6 q7 q8 q9 q10
            have q0 : w6.cell? ⟨X, 0, none⟩ = some (.int .u8 c.k) := K6.out.cell 0
            have q1 : w6.cell? ⟨X, 1, none⟩ = some (.int .i64 c.co) := K6.out.cell 1
            have q2 : w6.cell? ⟨X, 2, none⟩ = some (.int .i64 c.pe) := K6.out.cell 2
            have q3 : w6.cell? ⟨X, 3, none⟩ = some (.int .i64 c.tg) := K6.out.cell 3
            have q4 : w6.cell? ⟨X, 4, none⟩ = some (.int .i64 c.va) := K6.out.cell 4
            have q5 : w6.cell? ⟨X, 5, none⟩ = some (.int .i64 c.sz) := K6.out.cell 5
            have q6 : w6.cell? ⟨X, 6, none⟩ = some (.int .i64 c.ro) := K6.out.cell 6
            have q7 : w6.cell? ⟨X, 7, none⟩ = some (.int .u8 c.op) := K6.out.cell 7
            have q8 : w6.cell? ⟨X, 8, none⟩ = some (.slice ra c.rq.length rc) := K6.out.cell 8
            have q9 : w6.cell? ⟨X, 9, none⟩ = some (.int .i64 c.cl) := K6.out.cell 9
            have q10 : w6.cell? ⟨X, 10, none⟩ = some (.int .i64 c.ky) := K6.out.cell 10
            go_wp2_with fail
            refine (UB.out w6).mono ?_
            rintro e w' ⟨rfl, rfl⟩
            rw [T0.out]
            clear z1 d40 m40 q0 q1 q2 q3 q4 q5 q6 q7 q8 q9 q10
            have US5 : U.size ≤ 5 := by rw [← HU.out]; exact usesS_len c.k
            go_wp2_with fail
            go_loopw [6, 4] (fun vi vs wr => ∃ (k : Nat), k ≤ U.size ∧ vi = .int .i64 k ∧ vs = .string (bytes (txB c k)) ∧ Hid ((txB c k).length ≤ 20 + k * 23200) ∧ Hid (Below w'.heap.size w' wr)) (fun vi _ _ => U.size - (RowKit.intOf vi).toNat)
            case atStart => exact ⟨0, Nat.zero_le _, rfl, rfl, hide (by rw [txB_0]; have := word_len c.k; simp; omega), hide (Below.refl _ _)⟩
            case round =>
              obtain ⟨k, hk, rfl, rfl, HT, HBR⟩ := hrel
              have BR := hide (HB6.out.1.trans (HBR.out.mono HB6.out.2))
              have tl : (bytes (txB c k)).size ≤ 20 + k * 23200 := by rw [bytes_size]; exact HT.out
              by_cases hlt : k < U.size
              rotate_left
              · have hltI : ¬ (k : Int) < (U.size : Int) := by omega
                obtain rfl : k = U.size := by omega
                have FI : Hid (bytes (txB c U.size) ++ ⟨#[41]⟩ = bytes (textOf c)) := hide (by
                  rw [show (⟨#[41]⟩ : ByteArray) = bytes [41] from rfl, bytes_app, ← txB_all HNE.out]
                  rw [show U.size = (usesS c.k).size by rw [← HU.out]; rfl])
                have d41 : (⟨#[41]⟩ : ByteArray).size = 1 := rfl
                have m41 : ¬ 9223372036854775807 < (bytes (txB c U.size)).size + 1 := by omega
                go_wp2_with fail
                rw [FI.out]
                exact bodyPost_ret (v := .tuple #[.string (bytes (textOf c)), .int .i64 0]) (by simp [results, Tryd.results8, go_sem]) rfl ⟨.inl ⟨TXT.out, rfl⟩, by rw [HX.out]; exact BR.out⟩
              · have hltI : (k : Int) < (U.size : Int) := by omega
                have hx : (usesS c.k)[k]? = some (U[k]) := by
                  have e : (usesS c.k) = U.data := by rw [← HU.out]
                  rw [e, Array.getElem?_eq_getElem (by simpa using hlt)]
                  simp [ByteArray.getElem_eq_getElem_data]
                have LE := letters c.k (U[k]) (Array.mem_of_getElem? hx)
                have PL := pcT_len HO.out HL.out (U[k]).toNat
                have S0 : Hid (k = 0 → bytes (txB c (k + 1)) = bytes (txB c k) ++ bytes (pcT c (U[k]).toNat)) := hide (fun h => by subst h; rw [txB_1 c _ hx, bytes_app])
                have S1 : Hid (0 < k → bytes (txB c (k + 1)) = bytes (txB c k) ++ ⟨#[44, 32]⟩ ++ bytes (pcT c (U[k]).toNat)) := hide (fun h => by rw [txB_s c k _ h hx, show (⟨#[44, 32]⟩ : ByteArray) = bytes [44, 32] from rfl, bytes_app, bytes_app])
                have L1 : Hid ((txB c (k + 1)).length ≤ 20 + (k + 1) * 23200) := hide (by
                  rcases Nat.eq_zero_or_pos k with h | h
                  · subst h; rw [txB_1 c _ hx, List.length_append]; have := HT.out; omega
                  · rw [txB_s c k _ h hx, List.length_append, List.length_append]; have := HT.out; simp only [List.length_cons, List.length_nil]; omega)
                have KQ := K6.out.below HBR.out K6.out.lt
                have q0 : wr.cell? ⟨X, 0, none⟩ = some (.int .u8 c.k) := KQ.cell 0
                have q1 : wr.cell? ⟨X, 1, none⟩ = some (.int .i64 c.co) := KQ.cell 1
                have q2 : wr.cell? ⟨X, 2, none⟩ = some (.int .i64 c.pe) := KQ.cell 2
                have q3 : wr.cell? ⟨X, 3, none⟩ = some (.int .i64 c.tg) := KQ.cell 3
                have q4 : wr.cell? ⟨X, 4, none⟩ = some (.int .i64 c.va) := KQ.cell 4
                have q5 : wr.cell? ⟨X, 5, none⟩ = some (.int .i64 c.sz) := KQ.cell 5
                have q6 : wr.cell? ⟨X, 6, none⟩ = some (.int .i64 c.ro) := KQ.cell 6
                have q7 : wr.cell? ⟨X, 7, none⟩ = some (.int .u8 c.op) := KQ.cell 7
                have q8 : wr.cell? ⟨X, 8, none⟩ = some (.slice ra c.rq.length rc) := KQ.cell 8
                have q9 : wr.cell? ⟨X, 9, none⟩ = some (.int .i64 c.cl) := KQ.cell 9
                have q10 : wr.cell? ⟨X, 10, none⟩ = some (.int .i64 c.ky) := KQ.cell 10
                have HRQ := hide (HR6.out.below HBR.out)
                have XL := hide KQ.lt
                have pl : (bytes (pcT c (U[k]).toNat)).size ≤ 23100 := by rw [bytes_size]; exact PL
                have HLT := hide hlt
                obtain ⟨S2, hS2⟩ : ∃ z, bytes (txB c (k + 1)) = z := ⟨_, rfl⟩
                rw [hS2] at S0 S1
                have HS2 := hide hS2
                clear hx KQ PL hS2
                obtain ⟨S1B, hS1B⟩ : ∃ z, bytes (txB c k) = z := ⟨_, rfl⟩
                rw [hS1B] at S0 S1 tl
                rw [hS1B]
                have d2 : ((⟨#[44, 32]⟩ : ByteArray)).size = 2 := rfl
                have k5 : k ≤ 5 := by omega
                clear hS1B
                rcases LE with he | he | he | he | he | he | he | he | ⟨he, h7⟩
                · rw [he] at S0 S1 pl
                  have heI : ((U[k]).toNat : Int) = 99 := by omega
                  have HE := hide he
                  clear he
                  have PE : pcT c 99 = itoa c.co := rfl
                  rw [PE] at S0 S1 pl
                  have NB := hide (fun w' => number16_b c.co HO.out.co.1 HO.out.co.2 w')
                  obtain ⟨SI, hSI⟩ : ∃ z, bytes (itoa c.co) = z := ⟨_, rfl⟩
                  rw [hSI] at NB S0 S1 pl
                  clear PE hSI
                  by_cases hz : (0 : Int) < (k : Int)
                  · have EE := hide (S1.out (by omega))
                    have m1 : ¬ 9223372036854775807 < S1B.size + 2 := by omega
                    have m2 : ¬ 9223372036854775807 < S1B.size + 2 + SI.size := by omega
                    clear S0 S1
                    go_wp2_with fail
                    refine (NB.out wr).mono ?_
                    rintro e w3 ⟨rfl, hb4⟩
                    have HB4 := hide (HBR.out.trans (hb4.mono HBR.out.size))
                    clear hb4
                    go_wp2_with fail
                    go_roundw
                    case rel => exact ⟨k + 1, by omega, by go_num, by rw [HS2.out, EE.out], L1, HB4⟩
                    case measure => simp [RowKit.intOf] <;> omega
                  · have EE := hide (S0.out (by omega))
                    have hz2 : decide ((0 : Int) < (k : Int)) = false := by simpa using hz
                    have m2 : ¬ 9223372036854775807 < S1B.size + SI.size := by omega
                    clear S0 S1
                    go_wp2_with fail
                    refine (NB.out wr).mono ?_
                    rintro e w3 ⟨rfl, hb4⟩
                    have HB4 := hide (HBR.out.trans (hb4.mono HBR.out.size))
                    clear hb4
                    go_wp2_with fail
                    go_roundw
                    case rel => exact ⟨k + 1, by omega, by go_num, by rw [HS2.out, EE.out], L1, HB4⟩
                    case measure => simp [RowKit.intOf] <;> omega
                · rw [he] at S0 S1 pl
                  have heI : ((U[k]).toNat : Int) = 112 := by omega
                  have HE := hide he
                  clear he
                  have PE : pcT c 112 = itoa c.pe := rfl
                  rw [PE] at S0 S1 pl
                  have NB := hide (fun w' => number16_b c.pe HO.out.pe.1 HO.out.pe.2 w')
                  obtain ⟨SI, hSI⟩ : ∃ z, bytes (itoa c.pe) = z := ⟨_, rfl⟩
                  rw [hSI] at NB S0 S1 pl
                  clear PE hSI
                  by_cases hz : (0 : Int) < (k : Int)
                  · have EE := hide (S1.out (by omega))
                    have m1 : ¬ 9223372036854775807 < S1B.size + 2 := by omega
                    have m2 : ¬ 9223372036854775807 < S1B.size + 2 + SI.size := by omega
                    clear S0 S1
                    go_wp2_with fail
                    refine (NB.out wr).mono ?_
                    rintro e w3 ⟨rfl, hb4⟩
                    have HB4 := hide (HBR.out.trans (hb4.mono HBR.out.size))
                    clear hb4
                    go_wp2_with fail
                    go_roundw
                    case rel => exact ⟨k + 1, by omega, by go_num, by rw [HS2.out, EE.out], L1, HB4⟩
                    case measure => simp [RowKit.intOf] <;> omega
                  · have EE := hide (S0.out (by omega))
                    have hz2 : decide ((0 : Int) < (k : Int)) = false := by simpa using hz
                    have m2 : ¬ 9223372036854775807 < S1B.size + SI.size := by omega
                    clear S0 S1
                    go_wp2_with fail
                    refine (NB.out wr).mono ?_
                    rintro e w3 ⟨rfl, hb4⟩
                    have HB4 := hide (HBR.out.trans (hb4.mono HBR.out.size))
                    clear hb4
                    go_wp2_with fail
                    go_roundw
                    case rel => exact ⟨k + 1, by omega, by go_num, by rw [HS2.out, EE.out], L1, HB4⟩
                    case measure => simp [RowKit.intOf] <;> omega
                · rw [he] at S0 S1 pl
                  have heI : ((U[k]).toNat : Int) = 116 := by omega
                  have HE := hide he
                  clear he
                  have PE : pcT c 116 = itoa c.tg := rfl
                  rw [PE] at S0 S1 pl
                  have NB := hide (fun w' => number16_b c.tg HO.out.tg.1 HO.out.tg.2 w')
                  obtain ⟨SI, hSI⟩ : ∃ z, bytes (itoa c.tg) = z := ⟨_, rfl⟩
                  rw [hSI] at NB S0 S1 pl
                  clear PE hSI
                  by_cases hz : (0 : Int) < (k : Int)
                  · have EE := hide (S1.out (by omega))
                    have m1 : ¬ 9223372036854775807 < S1B.size + 2 := by omega
                    have m2 : ¬ 9223372036854775807 < S1B.size + 2 + SI.size := by omega
                    clear S0 S1
                    go_wp2_with fail
                    refine (NB.out wr).mono ?_
                    rintro e w3 ⟨rfl, hb4⟩
                    have HB4 := hide (HBR.out.trans (hb4.mono HBR.out.size))
                    clear hb4
                    go_wp2_with fail
                    go_roundw
                    case rel => exact ⟨k + 1, by omega, by go_num, by rw [HS2.out, EE.out], L1, HB4⟩
                    case measure => simp [RowKit.intOf] <;> omega
                  · have EE := hide (S0.out (by omega))
                    have hz2 : decide ((0 : Int) < (k : Int)) = false := by simpa using hz
                    have m2 : ¬ 9223372036854775807 < S1B.size + SI.size := by omega
                    clear S0 S1
                    go_wp2_with fail
                    refine (NB.out wr).mono ?_
                    rintro e w3 ⟨rfl, hb4⟩
                    have HB4 := hide (HBR.out.trans (hb4.mono HBR.out.size))
                    clear hb4
                    go_wp2_with fail
                    go_roundw
                    case rel => exact ⟨k + 1, by omega, by go_num, by rw [HS2.out, EE.out], L1, HB4⟩
                    case measure => simp [RowKit.intOf] <;> omega
                · rw [he] at S0 S1 pl
                  have heI : ((U[k]).toNat : Int) = 118 := by omega
                  have HE := hide he
                  clear he
                  have PE : pcT c 118 = itoa c.va := rfl
                  rw [PE] at S0 S1 pl
                  have NB := hide (fun w' => number05_b c.va HO.out.va.1 HO.out.va.2 w')
                  obtain ⟨SI, hSI⟩ : ∃ z, bytes (itoa c.va) = z := ⟨_, rfl⟩
                  rw [hSI] at NB S0 S1 pl
                  clear PE hSI
                  by_cases hz : (0 : Int) < (k : Int)
                  · have EE := hide (S1.out (by omega))
                    have m1 : ¬ 9223372036854775807 < S1B.size + 2 := by omega
                    have m2 : ¬ 9223372036854775807 < S1B.size + 2 + SI.size := by omega
                    clear S0 S1
                    go_wp2_with fail
                    refine (NB.out wr).mono ?_
                    rintro e w3 ⟨rfl, hb4⟩
                    have HB4 := hide (HBR.out.trans (hb4.mono HBR.out.size))
                    clear hb4
                    go_wp2_with fail
                    go_roundw
                    case rel => exact ⟨k + 1, by omega, by go_num, by rw [HS2.out, EE.out], L1, HB4⟩
                    case measure => simp [RowKit.intOf] <;> omega
                  · have EE := hide (S0.out (by omega))
                    have hz2 : decide ((0 : Int) < (k : Int)) = false := by simpa using hz
                    have m2 : ¬ 9223372036854775807 < S1B.size + SI.size := by omega
                    clear S0 S1
                    go_wp2_with fail
                    refine (NB.out wr).mono ?_
                    rintro e w3 ⟨rfl, hb4⟩
                    have HB4 := hide (HBR.out.trans (hb4.mono HBR.out.size))
                    clear hb4
                    go_wp2_with fail
                    go_roundw
                    case rel => exact ⟨k + 1, by omega, by go_num, by rw [HS2.out, EE.out], L1, HB4⟩
                    case measure => simp [RowKit.intOf] <;> omega
                · rw [he] at S0 S1 pl
                  have heI : ((U[k]).toNat : Int) = 115 := by omega
                  have HE := hide he
                  clear he
                  have PE : pcT c 115 = itoa c.sz := rfl
                  rw [PE] at S0 S1 pl
                  have NB := hide (fun w' => number16_b c.sz HO.out.sz.1 HO.out.sz.2 w')
                  obtain ⟨SI, hSI⟩ : ∃ z, bytes (itoa c.sz) = z := ⟨_, rfl⟩
                  rw [hSI] at NB S0 S1 pl
                  clear PE hSI
                  by_cases hz : (0 : Int) < (k : Int)
                  · have EE := hide (S1.out (by omega))
                    have m1 : ¬ 9223372036854775807 < S1B.size + 2 := by omega
                    have m2 : ¬ 9223372036854775807 < S1B.size + 2 + SI.size := by omega
                    clear S0 S1
                    go_wp2_with fail
                    refine (NB.out wr).mono ?_
                    rintro e w3 ⟨rfl, hb4⟩
                    have HB4 := hide (HBR.out.trans (hb4.mono HBR.out.size))
                    clear hb4
                    go_wp2_with fail
                    go_roundw
                    case rel => exact ⟨k + 1, by omega, by go_num, by rw [HS2.out, EE.out], L1, HB4⟩
                    case measure => simp [RowKit.intOf] <;> omega
                  · have EE := hide (S0.out (by omega))
                    have hz2 : decide ((0 : Int) < (k : Int)) = false := by simpa using hz
                    have m2 : ¬ 9223372036854775807 < S1B.size + SI.size := by omega
                    clear S0 S1
                    go_wp2_with fail
                    refine (NB.out wr).mono ?_
                    rintro e w3 ⟨rfl, hb4⟩
                    have HB4 := hide (HBR.out.trans (hb4.mono HBR.out.size))
                    clear hb4
                    go_wp2_with fail
                    go_roundw
                    case rel => exact ⟨k + 1, by omega, by go_num, by rw [HS2.out, EE.out], L1, HB4⟩
                    case measure => simp [RowKit.intOf] <;> omega
                · rw [he] at S0 S1 pl
                  have heI : ((U[k]).toNat : Int) = 114 := by omega
                  have HE := hide he
                  clear he
                  have PE : pcT c 114 = itoa c.ro := rfl
                  rw [PE] at S0 S1 pl
                  have NB := hide (fun w' => number16_b c.ro HO.out.ro.1 HO.out.ro.2 w')
                  obtain ⟨SI, hSI⟩ : ∃ z, bytes (itoa c.ro) = z := ⟨_, rfl⟩
                  rw [hSI] at NB S0 S1 pl
                  clear PE hSI
                  by_cases hz : (0 : Int) < (k : Int)
                  · have EE := hide (S1.out (by omega))
                    have m1 : ¬ 9223372036854775807 < S1B.size + 2 := by omega
                    have m2 : ¬ 9223372036854775807 < S1B.size + 2 + SI.size := by omega
                    clear S0 S1
                    go_wp2_with fail
                    refine (NB.out wr).mono ?_
                    rintro e w3 ⟨rfl, hb4⟩
                    have HB4 := hide (HBR.out.trans (hb4.mono HBR.out.size))
                    clear hb4
                    go_wp2_with fail
                    go_roundw
                    case rel => exact ⟨k + 1, by omega, by go_num, by rw [HS2.out, EE.out], L1, HB4⟩
                    case measure => simp [RowKit.intOf] <;> omega
                  · have EE := hide (S0.out (by omega))
                    have hz2 : decide ((0 : Int) < (k : Int)) = false := by simpa using hz
                    have m2 : ¬ 9223372036854775807 < S1B.size + SI.size := by omega
                    clear S0 S1
                    go_wp2_with fail
                    refine (NB.out wr).mono ?_
                    rintro e w3 ⟨rfl, hb4⟩
                    have HB4 := hide (HBR.out.trans (hb4.mono HBR.out.size))
                    clear hb4
                    go_wp2_with fail
                    go_roundw
                    case rel => exact ⟨k + 1, by omega, by go_num, by rw [HS2.out, EE.out], L1, HB4⟩
                    case measure => simp [RowKit.intOf] <;> omega
                · rw [he] at S0 S1 pl
                  have heI : ((U[k]).toNat : Int) = 111 := by omega
                  have HE := hide he
                  clear he
                  have PE : pcT c 111 = redL c.op := rfl
                  rw [PE] at S0 S1 pl
                  have NB := hide (fun w' => red_b c.op ⟨HO.out.op.1, HOP.out⟩ w')
                  obtain ⟨SI, hSI⟩ : ∃ z, bytes (redL c.op) = z := ⟨_, rfl⟩
                  rw [hSI] at NB S0 S1 pl
                  clear PE hSI
                  by_cases hz : (0 : Int) < (k : Int)
                  · have EE := hide (S1.out (by omega))
                    have m1 : ¬ 9223372036854775807 < S1B.size + 2 := by omega
                    have m2 : ¬ 9223372036854775807 < S1B.size + 2 + SI.size := by omega
                    clear S0 S1
                    go_wp2_with fail
                    refine (NB.out wr).mono ?_
                    rintro e w3 ⟨rfl, rfl⟩
                    have HB4 := HBR
                    go_wp2_with fail
                    go_roundw
                    case rel => exact ⟨k + 1, by omega, by go_num, by rw [HS2.out, EE.out], L1, HB4⟩
                    case measure => simp [RowKit.intOf] <;> omega
                  · have EE := hide (S0.out (by omega))
                    have hz2 : decide ((0 : Int) < (k : Int)) = false := by simpa using hz
                    have m2 : ¬ 9223372036854775807 < S1B.size + SI.size := by omega
                    clear S0 S1
                    go_wp2_with fail
                    refine (NB.out wr).mono ?_
                    rintro e w3 ⟨rfl, rfl⟩
                    have HB4 := HBR
                    go_wp2_with fail
                    go_roundw
                    case rel => exact ⟨k + 1, by omega, by go_num, by rw [HS2.out, EE.out], L1, HB4⟩
                    case measure => simp [RowKit.intOf] <;> omega
                · rw [he] at S0 S1 pl
                  have heI : ((U[k]).toNat : Int) = 107 := by omega
                  have HE := hide he
                  clear he
                  have PE : pcT c 107 = (itoa c.cl ++ [44, 32]) ++ itoa c.ky := rfl
                  rw [PE] at S0 S1 pl
                  have N1 := hide (fun w' => number16_b c.cl HO.out.cl.1 HO.out.cl.2 w')
                  have N2 := hide (fun w' => number16_b c.ky HO.out.ky.1 HO.out.ky.2 w')
                  have PB : bytes ((itoa c.cl ++ [44, 32]) ++ itoa c.ky) = bytes (itoa c.cl) ++ ⟨#[44, 32]⟩ ++ bytes (itoa c.ky) := by rw [show (⟨#[44, 32]⟩ : ByteArray) = bytes [44, 32] from rfl, bytes_app, bytes_app]
                  rw [PB] at S0 S1 pl
                  have p1 : (bytes (itoa c.cl)).size ≤ 21 := by rw [bytes_size]; exact Told.fit_len HO.out.cl
                  have p2 : (bytes (itoa c.ky)).size ≤ 21 := by rw [bytes_size]; exact Told.fit_len HO.out.ky
                  obtain ⟨SI, hSI⟩ : ∃ z, bytes (itoa c.cl) = z := ⟨_, rfl⟩
                  obtain ⟨SJ, hSJ⟩ : ∃ z, bytes (itoa c.ky) = z := ⟨_, rfl⟩
                  rw [hSI] at N1 S0 S1 p1
                  rw [hSJ] at N2 S0 S1 p2
                  clear pl PB PE hSI hSJ
                  by_cases hz : (0 : Int) < (k : Int)
                  · have EE := hide (S1.out (by omega))
                    have m1 : ¬ 9223372036854775807 < S1B.size + 2 := by omega
                    have m2 : ¬ 9223372036854775807 < S1B.size + 2 + SI.size := by omega
                    have m3 : ¬ 9223372036854775807 < S1B.size + 2 + SI.size + 2 := by omega
                    have m4 : ¬ 9223372036854775807 < S1B.size + 2 + SI.size + 2 + SJ.size := by omega
                    clear S0 S1
                    go_upto_region 26 with (fail)
                    have ne : Nonempty (BelowOf wr) := ⟨⟨wr, Below.refl _ _⟩⟩
                    have q9 : ∀ p : BelowOf wr, p.world.cell? ⟨X, 9, none⟩ = some (.int .i64 c.cl) := fun p => p.cell XL.out q9
                    have q10 : ∀ p : BelowOf wr, p.world.cell? ⟨X, 10, none⟩ = some (.int .i64 c.ky) := fun p => p.cell XL.out q10
                    refine wp_region_quiet_below (by kernel_rfl) (by kernel_rfl) ?_
                    repeat (go_big_quiet_step (first
                      | (go_at_call_of 30 (Value.int .i64 c.cl); refine calls_below (N1.out _))
                      | (go_at_call_of 30 (Value.int .i64 c.ky); refine calls_below (N2.out _))))
                    refine wpQuiet_nil ?_
                    rintro w3 ⟨⟨_, hb4⟩, rfl⟩
                    have HB4 := hide (HBR.out.trans (hb4.mono HBR.out.size))
                    clear hb4 q9 q10
                    go_wp2_with fail
                    go_roundw
                    case rel => exact ⟨k + 1, by omega, by go_num, by rw [HS2.out, EE.out]; simp only [ByteArray.append_assoc], L1, HB4⟩
                    case measure => simp [RowKit.intOf] <;> omega
                  · have EE := hide (S0.out (by omega))
                    have hz2 : decide ((0 : Int) < (k : Int)) = false := by simpa using hz
                    have m2 : ¬ 9223372036854775807 < S1B.size + SI.size := by omega
                    have m3 : ¬ 9223372036854775807 < S1B.size + SI.size + 2 := by omega
                    have m4 : ¬ 9223372036854775807 < S1B.size + SI.size + 2 + SJ.size := by omega
                    clear S0 S1
                    go_upto_region 26 with (fail)
                    have ne : Nonempty (BelowOf wr) := ⟨⟨wr, Below.refl _ _⟩⟩
                    have q9 : ∀ p : BelowOf wr, p.world.cell? ⟨X, 9, none⟩ = some (.int .i64 c.cl) := fun p => p.cell XL.out q9
                    have q10 : ∀ p : BelowOf wr, p.world.cell? ⟨X, 10, none⟩ = some (.int .i64 c.ky) := fun p => p.cell XL.out q10
                    refine wp_region_quiet_below (by kernel_rfl) (by kernel_rfl) ?_
                    repeat (go_big_quiet_step (first
                      | (go_at_call_of 30 (Value.int .i64 c.cl); refine calls_below (N1.out _))
                      | (go_at_call_of 30 (Value.int .i64 c.ky); refine calls_below (N2.out _))))
                    refine wpQuiet_nil ?_
                    rintro w3 ⟨⟨_, hb4⟩, rfl⟩
                    have HB4 := hide (HBR.out.trans (hb4.mono HBR.out.size))
                    clear hb4 q9 q10
                    go_wp2_with fail
                    go_roundw
                    case rel => exact ⟨k + 1, by omega, by go_num, by rw [HS2.out, EE.out]; simp only [ByteArray.append_assoc], L1, HB4⟩
                    case measure => simp [RowKit.intOf] <;> omega
                · rw [he] at S0 S1 pl
                  have heI : ((U[k]).toNat : Int) = 108 := by omega
                  have HE := hide he
                  have H7 := hide h7
                  clear he h7
                  have PE : pcT c 108 = jnC c.rq := rfl
                  rw [PE] at S0 S1 pl
                  have NB := hide (fun w' (h : NRow w' ra c.rq) => list_b ra rc c.rq w' h HL.out HO.out.rq)
                  obtain ⟨SI, hSI⟩ : ∃ z, bytes (jnC c.rq) = z := ⟨_, rfl⟩
                  rw [hSI] at NB S0 S1 pl
                  clear PE hSI
                  by_cases hz : (0 : Int) < (k : Int)
                  · have EE := hide (S1.out (by omega))
                    have m1 : ¬ 9223372036854775807 < S1B.size + 2 := by omega
                    have m2 : ¬ 9223372036854775807 < S1B.size + 2 + SI.size := by omega
                    clear S0 S1
                    go_wp2_with fail
                    refine (NB.out wr HRQ.out).mono ?_
                    rintro e w3 ⟨rfl, hb4⟩
                    have HB4 := hide (HBR.out.trans (hb4.mono HBR.out.size))
                    clear hb4
                    go_wp2_with fail
                    go_roundw
                    case rel => exact ⟨k + 1, by omega, by go_num, by rw [HS2.out, EE.out], L1, HB4⟩
                    case measure => simp [RowKit.intOf] <;> omega
                  · have EE := hide (S0.out (by omega))
                    have hz2 : decide ((0 : Int) < (k : Int)) = false := by simpa using hz
                    have m2 : ¬ 9223372036854775807 < S1B.size + SI.size := by omega
                    clear S0 S1
                    go_wp2_with fail
                    refine (NB.out wr HRQ.out).mono ?_
                    rintro e w3 ⟨rfl, hb4⟩
                    have HB4 := hide (HBR.out.trans (hb4.mono HBR.out.size))
                    clear hb4
                    go_wp2_with fail
                    go_roundw
                    case rel => exact ⟨k + 1, by omega, by go_num, by rw [HS2.out, EE.out], L1, HB4⟩
                    case measure => simp [RowKit.intOf] <;> omega
      | false =>
        have TXT : Hid (hasText c) := hide ⟨HNE.out, HTR.out, HOP.out, fun h => by rw [HB7.out] at h; cases h⟩
        let R : Nat → Value → World → Prop := fun sl u w1 => match sl with
          | 7 => u = .pointer (some ⟨X, 0, none⟩)
          | 8 => u = .int .u8 c.k
          | 9 => u = .string U
          | 10 => u = .bool false
          | 11 => u = .bool false
          | 12 => u = .agg #[.int .u8 c.k, .int .i64 c.co, .int .i64 c.pe, .int .i64 c.tg, .int .i64 c.va, .int .i64 c.sz, .int .i64 c.ro, .int .u8 c.op, .slice ra c.rq.length rc, .int .i64 c.cl, .int .i64 c.ky]
          | 13 => u = .agg #[.int .u8 c.k, .int .i64 c.co, .int .i64 c.pe, .int .i64 c.tg, .int .i64 c.va, .int .i64 c.sz, .int .i64 c.ro, .int .u8 c.op, .slice ra c.rq.length rc, .int .i64 c.cl, .int .i64 c.ky]
          | 14 => ∃ rb rd, u = .agg ((trimC c).A rb rd) ∧ NRow w1 rb (trimC c).rq
          | 15 => u = .bool true
          | 16 => u = .bool false
          | 17 => u = .bool false
          | 18 => u = .bool false
          | 19 => u = .pointer (some ⟨X, 7, none⟩)
          | 20 => u = .int .u8 c.op
          | 21 => u = .bool false
          | 22 => u = .bool false
          | 23 => u = .bool false
          | 24 => u = .pointer (some ⟨X, 0, none⟩)
          | 25 => u = .int .u8 c.k
          | 26 => u = .bool false
          | 27 => u = .bool false
          | 31 => u = .bool false
          | 32 => u = .bool false
          | _ => True
        let G0 : Nat → Bool := fun i => match i with | 21 => false | 22 => false | 23 => false | _ => true
        refine wp_region_relG G0 R (fun a b => Below a.heap.size a b) (fun _ w => Below w1.heap.size w1 w) (by kernel_rfl) (by kernel_rfl) (by kernel_rfl) ?mono (fun w => Below.refl _ _) ((Below.refl _ _).drew) (by kernel_rfl) ?gg ?step ?skip ?fin
        case mono =>
          intro sl u wx wy h hk
          match sl with
          | 14 =>
            obtain ⟨rb, rd, h1, h2⟩ := h
            exact ⟨rb, rd, h1, h2.below hk⟩
          | 0 | 1 | 2 | 3 | 4 | 5 | 6 | 7 | 8 | 9 | 10 | 11 | 12 | 13 | 15 | 16 | 17 | 18 | 19 | 20 | 21 | 22 | 23 | 24 | 25 | 26 | 27 | 28 | 29 | 30 | 31 | 32 | _ + 33 => exact h
        case gg =>
          intro i o g b o' t u w ho hg hg1 hd hr
          match i, ho with
          | 0, ho => cases ho; cases hg
          | 1, ho => cases ho; cases hg
          | 2, ho => cases ho; cases hg
          | 3, ho => cases ho; cases hg
          | 4, ho => cases ho; cases hg
          | 5, ho =>
            cases ho; cases hg; cases hg1; cases hd
            have e : u = .bool false := hr
            rw [e]; rfl
          | 6, ho =>
            cases ho; cases hg; cases hg1; cases hd
            have e : u = .bool false := hr
            rw [e]; rfl
          | 7, ho =>
            cases ho; cases hg; cases hg1; cases hd
            have e : u = .bool false := hr
            rw [e]; rfl
          | 8, ho =>
            cases ho; cases hg; cases hg1; cases hd
            have e : u = .bool false := hr
            rw [e]; rfl
          | 9, ho =>
            cases ho; cases hg; cases hg1; cases hd
            have e : u = .bool false := hr
            rw [e]; rfl
          | 10, ho => cases ho; cases hg
          | 11, ho => cases ho; cases hg
          | 12, ho =>
            cases ho; cases hg; cases hg1; cases hd
            have e : u = .bool false := hr
            rw [e]; rfl
          | 13, ho =>
            cases ho; cases hg; cases hg1; cases hd
            have e : u = .bool false := hr
            rw [e]; rfl
          | 14, ho =>
            cases ho; cases hg; cases hg1; cases hd
            have e : u = .bool false := hr
            rw [e]; rfl
          | 15, ho => cases ho; cases hg
          | 16, ho => cases ho; cases hg
          | 17, ho =>
            cases ho; cases hg; cases hg1; cases hd
            have e : u = .bool false := hr
            rw [e]; rfl
          | 18, ho =>
            cases ho; cases hg; cases hg1; cases hd
            have e : u = .bool false := hr
            rw [e]; rfl
          | 19, ho =>
            cases ho; cases hg; cases hg1; cases hd
            have e : u = .bool false := hr
            rw [e]; rfl
          | 20, ho =>
            cases ho; cases hg; cases hg1; cases hd
            have e : u = .bool false := hr
            rw [e]; rfl
          | 21, ho =>
            cases ho; cases hg; cases hg1; cases hd
            have e : u = .bool false := hr
            rw [e]; rfl
          | 22, ho =>
            cases ho; cases hg; cases hg1; cases hd
            have e : u = .bool false := hr
            rw [e]; rfl
          | 23, ho =>
            cases ho; cases hg; cases hg1; cases hd
            have e : u = .bool false := hr
            rw [e]; rfl
          | 24, ho =>
            cases ho; cases hg; cases hg1; cases hd
            have e : u = .bool false := hr
            rw [e]; rfl
          | 25, ho => cases ho; cases hg
          | _ + 26, ho => cases ho
        case skip =>
          intro i o ho hG V w hV hj
          match i, ho with
          | 0, ho => exact absurd hG (by show ¬ (true = false); decide)
          | 1, ho => exact absurd hG (by show ¬ (true = false); decide)
          | 2, ho => exact absurd hG (by show ¬ (true = false); decide)
          | 3, ho => exact absurd hG (by show ¬ (true = false); decide)
          | 4, ho => exact absurd hG (by show ¬ (true = false); decide)
          | 5, ho => exact absurd hG (by show ¬ (true = false); decide)
          | 6, ho => exact absurd hG (by show ¬ (true = false); decide)
          | 7, ho => exact absurd hG (by show ¬ (true = false); decide)
          | 8, ho => exact absurd hG (by show ¬ (true = false); decide)
          | 9, ho => exact absurd hG (by show ¬ (true = false); decide)
          | 10, ho => exact absurd hG (by show ¬ (true = false); decide)
          | 11, ho => exact absurd hG (by show ¬ (true = false); decide)
          | 12, ho => exact absurd hG (by show ¬ (true = false); decide)
          | 13, ho => exact absurd hG (by show ¬ (true = false); decide)
          | 14, ho => exact absurd hG (by show ¬ (true = false); decide)
          | 15, ho => exact absurd hG (by show ¬ (true = false); decide)
          | 16, ho => exact absurd hG (by show ¬ (true = false); decide)
          | 17, ho => exact absurd hG (by show ¬ (true = false); decide)
          | 18, ho => exact absurd hG (by show ¬ (true = false); decide)
          | 19, ho => exact absurd hG (by show ¬ (true = false); decide)
          | 20, ho => exact absurd hG (by show ¬ (true = false); decide)
          | 21, ho => cases ho; exact ⟨fun t ht => by cases ht; trivial, hj⟩
          | 22, ho => cases ho; exact ⟨fun t ht => by cases ht; trivial, hj⟩
          | 23, ho => cases ho; exact ⟨fun t ht => by cases ht; trivial, hj⟩
          | 24, ho => exact absurd hG (by show ¬ (true = false); decide)
          | 25, ho => exact absurd hG (by show ¬ (true = false); decide)
          | _ + 26, ho => cases ho
        case step =>
          intro j o ho hG
          match j, ho with
          | 0, ho =>
            cases ho
            intro V aa wx hV hdep hval hj hsm hr
            have e1 : aa.tmps.getD 1 undef = .pointer (some ⟨X, 0, none⟩) := hsm 1 (by decide)
            rw [Array.getD_eq_getD_getElem?] at e1
            unfold Oper.wp
            simp only [execOp, Act.eval, Array.getD_eq_getD_getElem?, e1]
            go_simp
            first | exact ⟨_, rfl, rfl, Below.refl _ _⟩ | exact ⟨_, rfl, rfl, Below.refl _ _, hj⟩ | exact ⟨_, rfl, Below.refl _ _, hj⟩ | exact ⟨_, rfl, hj⟩
          | 1, ho =>
            cases ho
            intro V aa wx hV hdep hval hj hsm hr
            have e7 : aa.tmps.getD 7 undef = .pointer (some ⟨X, 0, none⟩) := hr 7 (by decide) (by apply Array.mem_toList_iff.1; repeat (first | exact List.Mem.head _ | apply List.Mem.tail))
            have hkb := K1.out.below hj K1.out.lt
            have cc0 : wx.cell? ⟨X, 0, none⟩ = some (.int .u8 c.k) := hkb.cell 0
            have cc1 : wx.cell? ⟨X, 1, none⟩ = some (.int .i64 c.co) := hkb.cell 1
            have cc2 : wx.cell? ⟨X, 2, none⟩ = some (.int .i64 c.pe) := hkb.cell 2
            have cc3 : wx.cell? ⟨X, 3, none⟩ = some (.int .i64 c.tg) := hkb.cell 3
            have cc4 : wx.cell? ⟨X, 4, none⟩ = some (.int .i64 c.va) := hkb.cell 4
            have cc5 : wx.cell? ⟨X, 5, none⟩ = some (.int .i64 c.sz) := hkb.cell 5
            have cc6 : wx.cell? ⟨X, 6, none⟩ = some (.int .i64 c.ro) := hkb.cell 6
            have cc7 : wx.cell? ⟨X, 7, none⟩ = some (.int .u8 c.op) := hkb.cell 7
            have cc8 : wx.cell? ⟨X, 8, none⟩ = some (.slice ra c.rq.length rc) := hkb.cell 8
            have cc9 : wx.cell? ⟨X, 9, none⟩ = some (.int .i64 c.cl) := hkb.cell 9
            have cc10 : wx.cell? ⟨X, 10, none⟩ = some (.int .i64 c.ky) := hkb.cell 10
            rw [Array.getD_eq_getD_getElem?] at e7
            unfold Oper.wp
            simp only [execOp, Act.eval, Array.getD_eq_getD_getElem?, e7]
            go_simp
            first | exact ⟨_, rfl, rfl, Below.refl _ _⟩ | exact ⟨_, rfl, rfl, Below.refl _ _, hj⟩ | exact ⟨_, rfl, Below.refl _ _, hj⟩ | exact ⟨_, rfl, hj⟩
          | 2, ho =>
            cases ho
            intro V aa wx hV hdep hval hj hsm hr
            have e8 : aa.tmps.getD 8 undef = .int .u8 c.k := hr 8 (by decide) (by apply Array.mem_toList_iff.1; repeat (first | exact List.Mem.head _ | apply List.Mem.tail))
            rw [Array.getD_eq_getD_getElem?] at e8
            unfold Oper.wp
            simp only [execOp, Act.eval, Array.getD_eq_getD_getElem?, e8]
            go_simp
            refine (UB.out wx).mono ?_
            rintro e w' ⟨rfl, rfl⟩
            exact ⟨_, rfl, rfl, Below.refl _ _, hj⟩
          | 3, ho =>
            cases ho
            intro V aa wx hV hdep hval hj hsm hr
            have e9 : aa.tmps.getD 9 undef = .string U := hr 9 (by decide) (by apply Array.mem_toList_iff.1; repeat (first | exact List.Mem.head _ | apply List.Mem.tail))
            rw [Array.getD_eq_getD_getElem?] at e9
            unfold Oper.wp
            simp only [execOp, Act.eval, Array.getD_eq_getD_getElem?, e9]
            go_simp
            have E := E10.out
            first | exact ⟨_, rfl, rfl, Below.refl _ _⟩ | exact ⟨_, rfl, rfl, Below.refl _ _, hj⟩ | exact ⟨_, rfl, (show Value.bool U.toList.isEmpty = .bool false by rw [E]), Below.refl _ _⟩ | exact ⟨_, rfl, (show Value.bool U.toList.isEmpty = .bool false by rw [E]), Below.refl _ _, hj⟩
          | 4, ho =>
            cases ho
            intro V aa wx hV hdep hval hj hsm hr
            have e10 : aa.tmps.getD 10 undef = .bool false := hr 10 (by decide) (by apply Array.mem_toList_iff.1; repeat (first | exact List.Mem.head _ | apply List.Mem.tail))
            rw [Array.getD_eq_getD_getElem?] at e10
            unfold Oper.wp
            simp only [execOp, Act.eval, Array.getD_eq_getD_getElem?, e10]
            go_simp
            first | exact ⟨_, rfl, rfl, Below.refl _ _⟩ | exact ⟨_, rfl, rfl, Below.refl _ _, hj⟩ | exact ⟨_, rfl, Below.refl _ _, hj⟩ | exact ⟨_, rfl, hj⟩
          | 5, ho =>
            cases ho
            intro V aa wx hV hdep hval hj hsm hr
            have e1 : aa.tmps.getD 1 undef = .pointer (some ⟨X, 0, none⟩) := hsm 1 (by decide)
            have hkb := K1.out.below hj K1.out.lt
            have cc0 : wx.cell? ⟨X, 0, none⟩ = some (.int .u8 c.k) := hkb.cell 0
            have cc1 : wx.cell? ⟨X, 1, none⟩ = some (.int .i64 c.co) := hkb.cell 1
            have cc2 : wx.cell? ⟨X, 2, none⟩ = some (.int .i64 c.pe) := hkb.cell 2
            have cc3 : wx.cell? ⟨X, 3, none⟩ = some (.int .i64 c.tg) := hkb.cell 3
            have cc4 : wx.cell? ⟨X, 4, none⟩ = some (.int .i64 c.va) := hkb.cell 4
            have cc5 : wx.cell? ⟨X, 5, none⟩ = some (.int .i64 c.sz) := hkb.cell 5
            have cc6 : wx.cell? ⟨X, 6, none⟩ = some (.int .i64 c.ro) := hkb.cell 6
            have cc7 : wx.cell? ⟨X, 7, none⟩ = some (.int .u8 c.op) := hkb.cell 7
            have cc8 : wx.cell? ⟨X, 8, none⟩ = some (.slice ra c.rq.length rc) := hkb.cell 8
            have cc9 : wx.cell? ⟨X, 9, none⟩ = some (.int .i64 c.cl) := hkb.cell 9
            have cc10 : wx.cell? ⟨X, 10, none⟩ = some (.int .i64 c.ky) := hkb.cell 10
            rw [Array.getD_eq_getD_getElem?] at e1
            unfold Oper.wp
            simp only [execOp, Act.eval, Array.getD_eq_getD_getElem?, e1]
            go_simp
            first | exact ⟨_, rfl, rfl, Below.refl _ _⟩ | exact ⟨_, rfl, rfl, Below.refl _ _, hj⟩ | exact ⟨_, rfl, Below.refl _ _, hj⟩ | exact ⟨_, rfl, hj⟩
          | 6, ho =>
            cases ho
            intro V aa wx hV hdep hval hj hsm hr
            have e1 : aa.tmps.getD 1 undef = .pointer (some ⟨X, 0, none⟩) := hsm 1 (by decide)
            have hkb := K1.out.below hj K1.out.lt
            have cc0 : wx.cell? ⟨X, 0, none⟩ = some (.int .u8 c.k) := hkb.cell 0
            have cc1 : wx.cell? ⟨X, 1, none⟩ = some (.int .i64 c.co) := hkb.cell 1
            have cc2 : wx.cell? ⟨X, 2, none⟩ = some (.int .i64 c.pe) := hkb.cell 2
            have cc3 : wx.cell? ⟨X, 3, none⟩ = some (.int .i64 c.tg) := hkb.cell 3
            have cc4 : wx.cell? ⟨X, 4, none⟩ = some (.int .i64 c.va) := hkb.cell 4
            have cc5 : wx.cell? ⟨X, 5, none⟩ = some (.int .i64 c.sz) := hkb.cell 5
            have cc6 : wx.cell? ⟨X, 6, none⟩ = some (.int .i64 c.ro) := hkb.cell 6
            have cc7 : wx.cell? ⟨X, 7, none⟩ = some (.int .u8 c.op) := hkb.cell 7
            have cc8 : wx.cell? ⟨X, 8, none⟩ = some (.slice ra c.rq.length rc) := hkb.cell 8
            have cc9 : wx.cell? ⟨X, 9, none⟩ = some (.int .i64 c.cl) := hkb.cell 9
            have cc10 : wx.cell? ⟨X, 10, none⟩ = some (.int .i64 c.ky) := hkb.cell 10
            rw [Array.getD_eq_getD_getElem?] at e1
            unfold Oper.wp
            simp only [execOp, Act.eval, Array.getD_eq_getD_getElem?, e1]
            go_simp
            first | exact ⟨_, rfl, rfl, Below.refl _ _⟩ | exact ⟨_, rfl, rfl, Below.refl _ _, hj⟩ | exact ⟨_, rfl, Below.refl _ _, hj⟩ | exact ⟨_, rfl, hj⟩
          | 7, ho =>
            cases ho
            intro V aa wx hV hdep hval hj hsm hr
            have e13 : aa.tmps.getD 13 undef = .agg #[.int .u8 c.k, .int .i64 c.co, .int .i64 c.pe, .int .i64 c.tg, .int .i64 c.va, .int .i64 c.sz, .int .i64 c.ro, .int .u8 c.op, .slice ra c.rq.length rc, .int .i64 c.cl, .int .i64 c.ky] := hr 13 (by decide) (by apply Array.mem_toList_iff.1; repeat (first | exact List.Mem.head _ | apply List.Mem.tail))
            rw [Array.getD_eq_getD_getElem?] at e13
            unfold Oper.wp
            simp only [execOp, Act.eval, Array.getD_eq_getD_getElem?, e13]
            go_simp
            refine (TRB.out wx (HR1.out.below hj)).mono ?_
            rintro e w' ⟨rb, rd, rfl, hown, hb⟩
            exact ⟨_, rfl, ⟨rb, rd, rfl, own_row hown rfl⟩, hb, hj.trans (hb.mono hj.size)⟩
          | 8, ho =>
            cases ho
            intro V aa wx hV hdep hval hj hsm hr
            have e12 : aa.tmps.getD 12 undef = .agg #[.int .u8 c.k, .int .i64 c.co, .int .i64 c.pe, .int .i64 c.tg, .int .i64 c.va, .int .i64 c.sz, .int .i64 c.ro, .int .u8 c.op, .slice ra c.rq.length rc, .int .i64 c.cl, .int .i64 c.ky] := hr 12 (by decide) (by apply Array.mem_toList_iff.1; repeat (first | exact List.Mem.head _ | apply List.Mem.tail))
            have r14 := hr 14 (by decide) (by apply Array.mem_toList_iff.1; repeat (first | exact List.Mem.head _ | apply List.Mem.tail))
            obtain ⟨rb, rd, e14, hn14⟩ := r14
            have e14 : aa.tmps.getD 14 undef = .agg ((trimC c).A rb rd) := e14
            rw [Array.getD_eq_getD_getElem?] at e12
            rw [Array.getD_eq_getD_getElem?] at e14
            unfold Oper.wp
            simp only [execOp, Act.eval, Array.getD_eq_getD_getElem?, e12, e14]
            go_simp
            refine (Same_b c (trimC c) ra rb rc rd wx (HR1.out.below hj) hn14 HL5.out HTRL.out).mono ?_
            rintro e w' ⟨rfl, hb⟩
            exact ⟨_, rfl, by show Value.bool (decide (c = trimC c)) = .bool _; rw [HBS.out], hb, hj.trans (hb.mono hj.size)⟩
          | 9, ho =>
            cases ho
            intro V aa wx hV hdep hval hj hsm hr
            have e15 : aa.tmps.getD 15 undef = .bool true := hr 15 (by decide) (by apply Array.mem_toList_iff.1; repeat (first | exact List.Mem.head _ | apply List.Mem.tail))
            rw [Array.getD_eq_getD_getElem?] at e15
            unfold Oper.wp
            simp only [execOp, Act.eval, Array.getD_eq_getD_getElem?, e15]
            go_simp
            first | exact ⟨_, rfl, rfl, Below.refl _ _⟩ | exact ⟨_, rfl, rfl, Below.refl _ _, hj⟩ | exact ⟨_, rfl, Below.refl _ _, hj⟩ | exact ⟨_, rfl, hj⟩
          | 10, ho =>
            cases ho
            intro V aa wx hV hdep hval hj hsm hr
            have e11 : aa.tmps.getD 11 undef = .bool false := hr 11 (by decide) (by apply Array.mem_toList_iff.1; repeat (first | exact List.Mem.head _ | apply List.Mem.tail))
            have e16 : aa.tmps.getD 16 undef = .bool false := hr 16 (by decide) (by apply Array.mem_toList_iff.1; repeat (first | exact List.Mem.head _ | apply List.Mem.tail))
            rw [Array.getD_eq_getD_getElem?] at e11
            rw [Array.getD_eq_getD_getElem?] at e16
            unfold Oper.wp
            simp only [execOp, Act.eval, Array.getD_eq_getD_getElem?, e11, e16]
            go_simp
            first | exact ⟨_, rfl, rfl, Below.refl _ _⟩ | exact ⟨_, rfl, rfl, Below.refl _ _, hj⟩ | exact ⟨_, rfl, Below.refl _ _, hj⟩ | exact ⟨_, rfl, hj⟩
          | 11, ho =>
            cases ho
            intro V aa wx hV hdep hval hj hsm hr
            have e17 : aa.tmps.getD 17 undef = .bool false := hr 17 (by decide) (by apply Array.mem_toList_iff.1; repeat (first | exact List.Mem.head _ | apply List.Mem.tail))
            rw [Array.getD_eq_getD_getElem?] at e17
            unfold Oper.wp
            simp only [execOp, Act.eval, Array.getD_eq_getD_getElem?, e17]
            go_simp
            first | exact ⟨_, rfl, rfl, Below.refl _ _⟩ | exact ⟨_, rfl, rfl, Below.refl _ _, hj⟩ | exact ⟨_, rfl, Below.refl _ _, hj⟩ | exact ⟨_, rfl, hj⟩
          | 12, ho =>
            cases ho
            intro V aa wx hV hdep hval hj hsm hr
            have e1 : aa.tmps.getD 1 undef = .pointer (some ⟨X, 0, none⟩) := hsm 1 (by decide)
            rw [Array.getD_eq_getD_getElem?] at e1
            unfold Oper.wp
            simp only [execOp, Act.eval, Array.getD_eq_getD_getElem?, e1]
            go_simp
            first | exact ⟨_, rfl, rfl, Below.refl _ _⟩ | exact ⟨_, rfl, rfl, Below.refl _ _, hj⟩ | exact ⟨_, rfl, Below.refl _ _, hj⟩ | exact ⟨_, rfl, hj⟩
          | 13, ho =>
            cases ho
            intro V aa wx hV hdep hval hj hsm hr
            have e19 : aa.tmps.getD 19 undef = .pointer (some ⟨X, 7, none⟩) := hr 19 (by decide) (by apply Array.mem_toList_iff.1; repeat (first | exact List.Mem.head _ | apply List.Mem.tail))
            have hkb := K1.out.below hj K1.out.lt
            have cc0 : wx.cell? ⟨X, 0, none⟩ = some (.int .u8 c.k) := hkb.cell 0
            have cc1 : wx.cell? ⟨X, 1, none⟩ = some (.int .i64 c.co) := hkb.cell 1
            have cc2 : wx.cell? ⟨X, 2, none⟩ = some (.int .i64 c.pe) := hkb.cell 2
            have cc3 : wx.cell? ⟨X, 3, none⟩ = some (.int .i64 c.tg) := hkb.cell 3
            have cc4 : wx.cell? ⟨X, 4, none⟩ = some (.int .i64 c.va) := hkb.cell 4
            have cc5 : wx.cell? ⟨X, 5, none⟩ = some (.int .i64 c.sz) := hkb.cell 5
            have cc6 : wx.cell? ⟨X, 6, none⟩ = some (.int .i64 c.ro) := hkb.cell 6
            have cc7 : wx.cell? ⟨X, 7, none⟩ = some (.int .u8 c.op) := hkb.cell 7
            have cc8 : wx.cell? ⟨X, 8, none⟩ = some (.slice ra c.rq.length rc) := hkb.cell 8
            have cc9 : wx.cell? ⟨X, 9, none⟩ = some (.int .i64 c.cl) := hkb.cell 9
            have cc10 : wx.cell? ⟨X, 10, none⟩ = some (.int .i64 c.ky) := hkb.cell 10
            rw [Array.getD_eq_getD_getElem?] at e19
            unfold Oper.wp
            simp only [execOp, Act.eval, Array.getD_eq_getD_getElem?, e19]
            go_simp
            first | exact ⟨_, rfl, rfl, Below.refl _ _⟩ | exact ⟨_, rfl, rfl, Below.refl _ _, hj⟩ | exact ⟨_, rfl, Below.refl _ _, hj⟩ | exact ⟨_, rfl, hj⟩
          | 14, ho =>
            cases ho
            intro V aa wx hV hdep hval hj hsm hr
            have e20 : aa.tmps.getD 20 undef = .int .u8 c.op := hr 20 (by decide) (by apply Array.mem_toList_iff.1; repeat (first | exact List.Mem.head _ | apply List.Mem.tail))
            rw [Array.getD_eq_getD_getElem?] at e20
            unfold Oper.wp
            simp only [execOp, Act.eval, Array.getD_eq_getD_getElem?, e20]
            go_simp
            first | exact ⟨_, rfl, rfl, Below.refl _ _⟩ | exact ⟨_, rfl, rfl, Below.refl _ _, hj⟩ | exact ⟨_, rfl, Below.refl _ _, hj⟩ | exact ⟨_, rfl, hj⟩
          | 15, ho =>
            cases ho
            intro V aa wx hV hdep hval hj hsm hr
            have e18 : aa.tmps.getD 18 undef = .bool false := hr 18 (by decide) (by apply Array.mem_toList_iff.1; repeat (first | exact List.Mem.head _ | apply List.Mem.tail))
            have e21 : aa.tmps.getD 21 undef = .bool false := hr 21 (by decide) (by apply Array.mem_toList_iff.1; repeat (first | exact List.Mem.head _ | apply List.Mem.tail))
            rw [Array.getD_eq_getD_getElem?] at e18
            rw [Array.getD_eq_getD_getElem?] at e21
            unfold Oper.wp
            simp only [execOp, Act.eval, Array.getD_eq_getD_getElem?, e18, e21]
            go_simp
            first | exact ⟨_, rfl, rfl, Below.refl _ _⟩ | exact ⟨_, rfl, rfl, Below.refl _ _, hj⟩ | exact ⟨_, rfl, Below.refl _ _, hj⟩ | exact ⟨_, rfl, hj⟩
          | 16, ho =>
            cases ho
            intro V aa wx hV hdep hval hj hsm hr
            have e22 : aa.tmps.getD 22 undef = .bool false := hr 22 (by decide) (by apply Array.mem_toList_iff.1; repeat (first | exact List.Mem.head _ | apply List.Mem.tail))
            rw [Array.getD_eq_getD_getElem?] at e22
            unfold Oper.wp
            simp only [execOp, Act.eval, Array.getD_eq_getD_getElem?, e22]
            go_simp
            first | exact ⟨_, rfl, rfl, Below.refl _ _⟩ | exact ⟨_, rfl, rfl, Below.refl _ _, hj⟩ | exact ⟨_, rfl, Below.refl _ _, hj⟩ | exact ⟨_, rfl, hj⟩
          | 17, ho =>
            cases ho
            intro V aa wx hV hdep hval hj hsm hr
            have e1 : aa.tmps.getD 1 undef = .pointer (some ⟨X, 0, none⟩) := hsm 1 (by decide)
            rw [Array.getD_eq_getD_getElem?] at e1
            unfold Oper.wp
            simp only [execOp, Act.eval, Array.getD_eq_getD_getElem?, e1]
            go_simp
            first | exact ⟨_, rfl, rfl, Below.refl _ _⟩ | exact ⟨_, rfl, rfl, Below.refl _ _, hj⟩ | exact ⟨_, rfl, Below.refl _ _, hj⟩ | exact ⟨_, rfl, hj⟩
          | 18, ho =>
            cases ho
            intro V aa wx hV hdep hval hj hsm hr
            have e24 : aa.tmps.getD 24 undef = .pointer (some ⟨X, 0, none⟩) := hr 24 (by decide) (by apply Array.mem_toList_iff.1; repeat (first | exact List.Mem.head _ | apply List.Mem.tail))
            have hkb := K1.out.below hj K1.out.lt
            have cc0 : wx.cell? ⟨X, 0, none⟩ = some (.int .u8 c.k) := hkb.cell 0
            have cc1 : wx.cell? ⟨X, 1, none⟩ = some (.int .i64 c.co) := hkb.cell 1
            have cc2 : wx.cell? ⟨X, 2, none⟩ = some (.int .i64 c.pe) := hkb.cell 2
            have cc3 : wx.cell? ⟨X, 3, none⟩ = some (.int .i64 c.tg) := hkb.cell 3
            have cc4 : wx.cell? ⟨X, 4, none⟩ = some (.int .i64 c.va) := hkb.cell 4
            have cc5 : wx.cell? ⟨X, 5, none⟩ = some (.int .i64 c.sz) := hkb.cell 5
            have cc6 : wx.cell? ⟨X, 6, none⟩ = some (.int .i64 c.ro) := hkb.cell 6
            have cc7 : wx.cell? ⟨X, 7, none⟩ = some (.int .u8 c.op) := hkb.cell 7
            have cc8 : wx.cell? ⟨X, 8, none⟩ = some (.slice ra c.rq.length rc) := hkb.cell 8
            have cc9 : wx.cell? ⟨X, 9, none⟩ = some (.int .i64 c.cl) := hkb.cell 9
            have cc10 : wx.cell? ⟨X, 10, none⟩ = some (.int .i64 c.ky) := hkb.cell 10
            rw [Array.getD_eq_getD_getElem?] at e24
            unfold Oper.wp
            simp only [execOp, Act.eval, Array.getD_eq_getD_getElem?, e24]
            go_simp
            first | exact ⟨_, rfl, rfl, Below.refl _ _⟩ | exact ⟨_, rfl, rfl, Below.refl _ _, hj⟩ | exact ⟨_, rfl, Below.refl _ _, hj⟩ | exact ⟨_, rfl, hj⟩
          | 19, ho =>
            cases ho
            intro V aa wx hV hdep hval hj hsm hr
            have e25 : aa.tmps.getD 25 undef = .int .u8 c.k := hr 25 (by decide) (by apply Array.mem_toList_iff.1; repeat (first | exact List.Mem.head _ | apply List.Mem.tail))
            rw [Array.getD_eq_getD_getElem?] at e25
            unfold Oper.wp
            simp only [execOp, Act.eval, Array.getD_eq_getD_getElem?, e25]
            go_simp
            refine (HAS.out wx).mono ?_
            rintro e w' ⟨rfl, rfl⟩
            exact ⟨_, rfl, rfl, Below.refl _ _, hj⟩
          | 20, ho =>
            cases ho
            intro V aa wx hV hdep hval hj hsm hr
            have e26 : aa.tmps.getD 26 undef = .bool false := hr 26 (by decide) (by apply Array.mem_toList_iff.1; repeat (first | exact List.Mem.head _ | apply List.Mem.tail))
            rw [Array.getD_eq_getD_getElem?] at e26
            unfold Oper.wp
            simp only [execOp, Act.eval, Array.getD_eq_getD_getElem?, e26]
            go_simp
            first | exact ⟨_, rfl, rfl, Below.refl _ _⟩ | exact ⟨_, rfl, rfl, Below.refl _ _, hj⟩ | exact ⟨_, rfl, Below.refl _ _, hj⟩ | exact ⟨_, rfl, hj⟩
          | 21, ho => exact absurd hG (by show ¬ (false = true); decide)
          | 22, ho => exact absurd hG (by show ¬ (false = true); decide)
          | 23, ho => exact absurd hG (by show ¬ (false = true); decide)
          | 24, ho =>
            cases ho
            intro V aa wx hV hdep hval hj hsm hr
            have e27 : aa.tmps.getD 27 undef = .bool false := hr 27 (by decide) (by apply Array.mem_toList_iff.1; repeat (first | exact List.Mem.head _ | apply List.Mem.tail))
            rw [Array.getD_eq_getD_getElem?] at e27
            unfold Oper.wp
            simp only [execOp, Act.eval, Array.getD_eq_getD_getElem?, e27]
            go_simp
            first | exact ⟨_, rfl, rfl, Below.refl _ _⟩ | exact ⟨_, rfl, rfl, Below.refl _ _, hj⟩ | exact ⟨_, rfl, Below.refl _ _, hj⟩ | exact ⟨_, rfl, hj⟩
          | 25, ho =>
            cases ho
            intro V aa wx hV hdep hval hj hsm hr
            have e23 : aa.tmps.getD 23 undef = .bool false := hr 23 (by decide) (by apply Array.mem_toList_iff.1; repeat (first | exact List.Mem.head _ | apply List.Mem.tail))
            have e31 : aa.tmps.getD 31 undef = .bool false := hr 31 (by decide) (by apply Array.mem_toList_iff.1; repeat (first | exact List.Mem.head _ | apply List.Mem.tail))
            rw [Array.getD_eq_getD_getElem?] at e23
            rw [Array.getD_eq_getD_getElem?] at e31
            unfold Oper.wp
            simp only [execOp, Act.eval, Array.getD_eq_getD_getElem?, e23, e31]
            go_simp
            first | exact ⟨_, rfl, rfl, Below.refl _ _⟩ | exact ⟨_, rfl, rfl, Below.refl _ _, hj⟩ | exact ⟨_, rfl, Below.refl _ _, hj⟩ | exact ⟨_, rfl, hj⟩
          | _ + 26, ho => cases ho
        case fin =>
          intro ff V w5 hV hj hr
          have e32 : ff 32 = .bool false := hr 32 (by decide)
          have HB5 := hide (HB1.out.1.trans (hj.mono HB1.out.2))
          clear hV hr
          simp only [putAll, slotsOf, List.filterMap_cons, List.filterMap_nil, List.foldl_cons, List.foldl_nil, Act.put, e32]
          simp only [List.setIfInBounds_toArray, List.set_cons_succ, List.set_cons_zero]
          have K5 := hide (K1.out.below hj K1.out.lt)
          have HR5 := hide (HR1.out.below hj)
          have HX5 : Hid (X ≤ w5.heap.size) := hide (Nat.le_trans HB1.out.2 hj.size)
          have KC := hide (used_kind HNE.out)
          have WB := hide (word_b c.k KC.out w5)
          have z1 : (bytes (wordL c.k)).size ≤ 10 := by rw [bytes_size]; exact word_len _
          have d40 : (⟨#[40]⟩ : ByteArray).size = 1 := rfl
          have m40 : ¬ 9223372036854775807 < (bytes (wordL c.k)).size + 1 := by omega
          have T0 : Hid (bytes (wordL c.k) ++ ⟨#[40]⟩ = bytes (txB c 0)) := hide (by rw [txB_0, show (⟨#[40]⟩ : ByteArray) = bytes [40] from rfl, bytes_app])
          have q0 : w5.cell? ⟨X, 0, none⟩ = some (.int .u8 c.k) := K5.out.cell 0
          have q1 : w5.cell? ⟨X, 1, none⟩ = some (.int .i64 c.co) := K5.out.cell 1
          have q2 : w5.cell? ⟨X, 2, none⟩ = some (.int .i64 c.pe) := K5.out.cell 2
          have q3 : w5.cell? ⟨X, 3, none⟩ = some (.int .i64 c.tg) := K5.out.cell 3
          have q4 : w5.cell? ⟨X, 4, none⟩ = some (.int .i64 c.va) := K5.out.cell 4
          have q5 : w5.cell? ⟨X, 5, none⟩ = some (.int .i64 c.sz) := K5.out.cell 5
          have q6 : w5.cell? ⟨X, 6, none⟩ = some (.int .i64 c.ro) := K5.out.cell 6
          have q7 : w5.cell? ⟨X, 7, none⟩ = some (.int .u8 c.op) := K5.out.cell 7
          have q8 : w5.cell? ⟨X, 8, none⟩ = some (.slice ra c.rq.length rc) := K5.out.cell 8
          have q9 : w5.cell? ⟨X, 9, none⟩ = some (.int .i64 c.cl) := K5.out.cell 9
          have q10 : w5.cell? ⟨X, 10, none⟩ = some (.int .i64 c.ky) := K5.out.cell 10
          clear hj
          go_wp2_with fail
          refine WB.out.mono ?_
          rintro e w6 ⟨rfl, hb6⟩
          have HB6 := hide (And.intro (HB5.out.trans (hb6.mono HX5.out)) (Nat.le_trans HX5.out hb6.size))
          have K6 := hide (K5.out.below hb6 K5.out.lt)
          have HR6 := hide (HR5.out.below hb6)
          clear hb6 WB q0 q1 q2 q3 q4 q5 q6 q7 q8 q9 q10
          have q0 : w6.cell? ⟨X, 0, none⟩ = some (.int .u8 c.k) := K6.out.cell 0
          have q1 : w6.cell? ⟨X, 1, none⟩ = some (.int .i64 c.co) := K6.out.cell 1
          have q2 : w6.cell? ⟨X, 2, none⟩ = some (.int .i64 c.pe) := K6.out.cell 2
          have q3 : w6.cell? ⟨X, 3, none⟩ = some (.int .i64 c.tg) := K6.out.cell 3
          have q4 : w6.cell? ⟨X, 4, none⟩ = some (.int .i64 c.va) := K6.out.cell 4
          have q5 : w6.cell? ⟨X, 5, none⟩ = some (.int .i64 c.sz) := K6.out.cell 5
          have q6 : w6.cell? ⟨X, 6, none⟩ = some (.int .i64 c.ro) := K6.out.cell 6
          have q7 : w6.cell? ⟨X, 7, none⟩ = some (.int .u8 c.op) := K6.out.cell 7
          have q8 : w6.cell? ⟨X, 8, none⟩ = some (.slice ra c.rq.length rc) := K6.out.cell 8
          have q9 : w6.cell? ⟨X, 9, none⟩ = some (.int .i64 c.cl) := K6.out.cell 9
          have q10 : w6.cell? ⟨X, 10, none⟩ = some (.int .i64 c.ky) := K6.out.cell 10
          go_wp2_with fail
          refine (UB.out w6).mono ?_
          rintro e w' ⟨rfl, rfl⟩
          rw [T0.out]
          clear z1 d40 m40 q0 q1 q2 q3 q4 q5 q6 q7 q8 q9 q10
          have US5 : U.size ≤ 5 := by rw [← HU.out]; exact usesS_len c.k
          go_wp2_with fail
          go_loopw [6, 4] (fun vi vs wr => ∃ (k : Nat), k ≤ U.size ∧ vi = .int .i64 k ∧ vs = .string (bytes (txB c k)) ∧ Hid ((txB c k).length ≤ 20 + k * 23200) ∧ Hid (Below w'.heap.size w' wr)) (fun vi _ _ => U.size - (RowKit.intOf vi).toNat)
          case atStart => exact ⟨0, Nat.zero_le _, rfl, rfl, hide (by rw [txB_0]; have := word_len c.k; simp; omega), hide (Below.refl _ _)⟩
          case round =>
            obtain ⟨k, hk, rfl, rfl, HT, HBR⟩ := hrel
            have BR := hide (HB6.out.1.trans (HBR.out.mono HB6.out.2))
            have tl : (bytes (txB c k)).size ≤ 20 + k * 23200 := by rw [bytes_size]; exact HT.out
            by_cases hlt : k < U.size
            rotate_left
            · have hltI : ¬ (k : Int) < (U.size : Int) := by omega
              obtain rfl : k = U.size := by omega
              have FI : Hid (bytes (txB c U.size) ++ ⟨#[41]⟩ = bytes (textOf c)) := hide (by
                rw [show (⟨#[41]⟩ : ByteArray) = bytes [41] from rfl, bytes_app, ← txB_all HNE.out]
                rw [show U.size = (usesS c.k).size by rw [← HU.out]; rfl])
              have d41 : (⟨#[41]⟩ : ByteArray).size = 1 := rfl
              have m41 : ¬ 9223372036854775807 < (bytes (txB c U.size)).size + 1 := by omega
              go_wp2_with fail
              rw [FI.out]
              exact bodyPost_ret (v := .tuple #[.string (bytes (textOf c)), .int .i64 0]) (by simp [results, Tryd.results8, go_sem]) rfl ⟨.inl ⟨TXT.out, rfl⟩, by rw [HX.out]; exact BR.out⟩
            · have hltI : (k : Int) < (U.size : Int) := by omega
              have hx : (usesS c.k)[k]? = some (U[k]) := by
                have e : (usesS c.k) = U.data := by rw [← HU.out]
                rw [e, Array.getElem?_eq_getElem (by simpa using hlt)]
                simp [ByteArray.getElem_eq_getElem_data]
              have LE := letters c.k (U[k]) (Array.mem_of_getElem? hx)
              have PL := pcT_len HO.out HL.out (U[k]).toNat
              have S0 : Hid (k = 0 → bytes (txB c (k + 1)) = bytes (txB c k) ++ bytes (pcT c (U[k]).toNat)) := hide (fun h => by subst h; rw [txB_1 c _ hx, bytes_app])
              have S1 : Hid (0 < k → bytes (txB c (k + 1)) = bytes (txB c k) ++ ⟨#[44, 32]⟩ ++ bytes (pcT c (U[k]).toNat)) := hide (fun h => by rw [txB_s c k _ h hx, show (⟨#[44, 32]⟩ : ByteArray) = bytes [44, 32] from rfl, bytes_app, bytes_app])
              have L1 : Hid ((txB c (k + 1)).length ≤ 20 + (k + 1) * 23200) := hide (by
                rcases Nat.eq_zero_or_pos k with h | h
                · subst h; rw [txB_1 c _ hx, List.length_append]; have := HT.out; omega
                · rw [txB_s c k _ h hx, List.length_append, List.length_append]; have := HT.out; simp only [List.length_cons, List.length_nil]; omega)
              have KQ := K6.out.below HBR.out K6.out.lt
              have q0 : wr.cell? ⟨X, 0, none⟩ = some (.int .u8 c.k) := KQ.cell 0
              have q1 : wr.cell? ⟨X, 1, none⟩ = some (.int .i64 c.co) := KQ.cell 1
              have q2 : wr.cell? ⟨X, 2, none⟩ = some (.int .i64 c.pe) := KQ.cell 2
              have q3 : wr.cell? ⟨X, 3, none⟩ = some (.int .i64 c.tg) := KQ.cell 3
              have q4 : wr.cell? ⟨X, 4, none⟩ = some (.int .i64 c.va) := KQ.cell 4
              have q5 : wr.cell? ⟨X, 5, none⟩ = some (.int .i64 c.sz) := KQ.cell 5
              have q6 : wr.cell? ⟨X, 6, none⟩ = some (.int .i64 c.ro) := KQ.cell 6
              have q7 : wr.cell? ⟨X, 7, none⟩ = some (.int .u8 c.op) := KQ.cell 7
              have q8 : wr.cell? ⟨X, 8, none⟩ = some (.slice ra c.rq.length rc) := KQ.cell 8
              have q9 : wr.cell? ⟨X, 9, none⟩ = some (.int .i64 c.cl) := KQ.cell 9
              have q10 : wr.cell? ⟨X, 10, none⟩ = some (.int .i64 c.ky) := KQ.cell 10
              have HRQ := hide (HR6.out.below HBR.out)
              have XL := hide KQ.lt
              have pl : (bytes (pcT c (U[k]).toNat)).size ≤ 23100 := by rw [bytes_size]; exact PL
              have HLT := hide hlt
              obtain ⟨S2, hS2⟩ : ∃ z, bytes (txB c (k + 1)) = z := ⟨_, rfl⟩
              rw [hS2] at S0 S1
              have HS2 := hide hS2
              clear hx KQ PL hS2
              obtain ⟨S1B, hS1B⟩ : ∃ z, bytes (txB c k) = z := ⟨_, rfl⟩
              rw [hS1B] at S0 S1 tl
              rw [hS1B]
              have d2 : ((⟨#[44, 32]⟩ : ByteArray)).size = 2 := rfl
              have k5 : k ≤ 5 := by omega
              clear hS1B
              rcases LE with he | he | he | he | he | he | he | he | ⟨he, h7⟩
              · rw [he] at S0 S1 pl
                have heI : ((U[k]).toNat : Int) = 99 := by omega
                have HE := hide he
                clear he
                have PE : pcT c 99 = itoa c.co := rfl
                rw [PE] at S0 S1 pl
                have NB := hide (fun w' => number16_b c.co HO.out.co.1 HO.out.co.2 w')
                obtain ⟨SI, hSI⟩ : ∃ z, bytes (itoa c.co) = z := ⟨_, rfl⟩
                rw [hSI] at NB S0 S1 pl
                clear PE hSI
                by_cases hz : (0 : Int) < (k : Int)
                · have EE := hide (S1.out (by omega))
                  have m1 : ¬ 9223372036854775807 < S1B.size + 2 := by omega
                  have m2 : ¬ 9223372036854775807 < S1B.size + 2 + SI.size := by omega
                  clear S0 S1
                  go_wp2_with fail
                  refine (NB.out wr).mono ?_
                  rintro e w3 ⟨rfl, hb4⟩
                  have HB4 := hide (HBR.out.trans (hb4.mono HBR.out.size))
                  clear hb4
                  go_wp2_with fail
                  go_roundw
                  case rel => exact ⟨k + 1, by omega, by go_num, by rw [HS2.out, EE.out], L1, HB4⟩
                  case measure => simp [RowKit.intOf] <;> omega
                · have EE := hide (S0.out (by omega))
                  have hz2 : decide ((0 : Int) < (k : Int)) = false := by simpa using hz
                  have m2 : ¬ 9223372036854775807 < S1B.size + SI.size := by omega
                  clear S0 S1
                  go_wp2_with fail
                  refine (NB.out wr).mono ?_
                  rintro e w3 ⟨rfl, hb4⟩
                  have HB4 := hide (HBR.out.trans (hb4.mono HBR.out.size))
                  clear hb4
                  go_wp2_with fail
                  go_roundw
                  case rel => exact ⟨k + 1, by omega, by go_num, by rw [HS2.out, EE.out], L1, HB4⟩
                  case measure => simp [RowKit.intOf] <;> omega
              · rw [he] at S0 S1 pl
                have heI : ((U[k]).toNat : Int) = 112 := by omega
                have HE := hide he
                clear he
                have PE : pcT c 112 = itoa c.pe := rfl
                rw [PE] at S0 S1 pl
                have NB := hide (fun w' => number16_b c.pe HO.out.pe.1 HO.out.pe.2 w')
                obtain ⟨SI, hSI⟩ : ∃ z, bytes (itoa c.pe) = z := ⟨_, rfl⟩
                rw [hSI] at NB S0 S1 pl
                clear PE hSI
                by_cases hz : (0 : Int) < (k : Int)
                · have EE := hide (S1.out (by omega))
                  have m1 : ¬ 9223372036854775807 < S1B.size + 2 := by omega
                  have m2 : ¬ 9223372036854775807 < S1B.size + 2 + SI.size := by omega
                  clear S0 S1
                  go_wp2_with fail
                  refine (NB.out wr).mono ?_
                  rintro e w3 ⟨rfl, hb4⟩
                  have HB4 := hide (HBR.out.trans (hb4.mono HBR.out.size))
                  clear hb4
                  go_wp2_with fail
                  go_roundw
                  case rel => exact ⟨k + 1, by omega, by go_num, by rw [HS2.out, EE.out], L1, HB4⟩
                  case measure => simp [RowKit.intOf] <;> omega
                · have EE := hide (S0.out (by omega))
                  have hz2 : decide ((0 : Int) < (k : Int)) = false := by simpa using hz
                  have m2 : ¬ 9223372036854775807 < S1B.size + SI.size := by omega
                  clear S0 S1
                  go_wp2_with fail
                  refine (NB.out wr).mono ?_
                  rintro e w3 ⟨rfl, hb4⟩
                  have HB4 := hide (HBR.out.trans (hb4.mono HBR.out.size))
                  clear hb4
                  go_wp2_with fail
                  go_roundw
                  case rel => exact ⟨k + 1, by omega, by go_num, by rw [HS2.out, EE.out], L1, HB4⟩
                  case measure => simp [RowKit.intOf] <;> omega
              · rw [he] at S0 S1 pl
                have heI : ((U[k]).toNat : Int) = 116 := by omega
                have HE := hide he
                clear he
                have PE : pcT c 116 = itoa c.tg := rfl
                rw [PE] at S0 S1 pl
                have NB := hide (fun w' => number16_b c.tg HO.out.tg.1 HO.out.tg.2 w')
                obtain ⟨SI, hSI⟩ : ∃ z, bytes (itoa c.tg) = z := ⟨_, rfl⟩
                rw [hSI] at NB S0 S1 pl
                clear PE hSI
                by_cases hz : (0 : Int) < (k : Int)
                · have EE := hide (S1.out (by omega))
                  have m1 : ¬ 9223372036854775807 < S1B.size + 2 := by omega
                  have m2 : ¬ 9223372036854775807 < S1B.size + 2 + SI.size := by omega
                  clear S0 S1
                  go_wp2_with fail
                  refine (NB.out wr).mono ?_
                  rintro e w3 ⟨rfl, hb4⟩
                  have HB4 := hide (HBR.out.trans (hb4.mono HBR.out.size))
                  clear hb4
                  go_wp2_with fail
                  go_roundw
                  case rel => exact ⟨k + 1, by omega, by go_num, by rw [HS2.out, EE.out], L1, HB4⟩
                  case measure => simp [RowKit.intOf] <;> omega
                · have EE := hide (S0.out (by omega))
                  have hz2 : decide ((0 : Int) < (k : Int)) = false := by simpa using hz
                  have m2 : ¬ 9223372036854775807 < S1B.size + SI.size := by omega
                  clear S0 S1
                  go_wp2_with fail
                  refine (NB.out wr).mono ?_
                  rintro e w3 ⟨rfl, hb4⟩
                  have HB4 := hide (HBR.out.trans (hb4.mono HBR.out.size))
                  clear hb4
                  go_wp2_with fail
                  go_roundw
                  case rel => exact ⟨k + 1, by omega, by go_num, by rw [HS2.out, EE.out], L1, HB4⟩
                  case measure => simp [RowKit.intOf] <;> omega
              · rw [he] at S0 S1 pl
                have heI : ((U[k]).toNat : Int) = 118 := by omega
                have HE := hide he
                clear he
                have PE : pcT c 118 = itoa c.va := rfl
                rw [PE] at S0 S1 pl
                have NB := hide (fun w' => number05_b c.va HO.out.va.1 HO.out.va.2 w')
                obtain ⟨SI, hSI⟩ : ∃ z, bytes (itoa c.va) = z := ⟨_, rfl⟩
                rw [hSI] at NB S0 S1 pl
                clear PE hSI
                by_cases hz : (0 : Int) < (k : Int)
                · have EE := hide (S1.out (by omega))
                  have m1 : ¬ 9223372036854775807 < S1B.size + 2 := by omega
                  have m2 : ¬ 9223372036854775807 < S1B.size + 2 + SI.size := by omega
                  clear S0 S1
                  go_wp2_with fail
                  refine (NB.out wr).mono ?_
                  rintro e w3 ⟨rfl, hb4⟩
                  have HB4 := hide (HBR.out.trans (hb4.mono HBR.out.size))
                  clear hb4
                  go_wp2_with fail
                  go_roundw
                  case rel => exact ⟨k + 1, by omega, by go_num, by rw [HS2.out, EE.out], L1, HB4⟩
                  case measure => simp [RowKit.intOf] <;> omega
                · have EE := hide (S0.out (by omega))
                  have hz2 : decide ((0 : Int) < (k : Int)) = false := by simpa using hz
                  have m2 : ¬ 9223372036854775807 < S1B.size + SI.size := by omega
                  clear S0 S1
                  go_wp2_with fail
                  refine (NB.out wr).mono ?_
                  rintro e w3 ⟨rfl, hb4⟩
                  have HB4 := hide (HBR.out.trans (hb4.mono HBR.out.size))
                  clear hb4
                  go_wp2_with fail
                  go_roundw
                  case rel => exact ⟨k + 1, by omega, by go_num, by rw [HS2.out, EE.out], L1, HB4⟩
                  case measure => simp [RowKit.intOf] <;> omega
              · rw [he] at S0 S1 pl
                have heI : ((U[k]).toNat : Int) = 115 := by omega
                have HE := hide he
                clear he
                have PE : pcT c 115 = itoa c.sz := rfl
                rw [PE] at S0 S1 pl
                have NB := hide (fun w' => number16_b c.sz HO.out.sz.1 HO.out.sz.2 w')
                obtain ⟨SI, hSI⟩ : ∃ z, bytes (itoa c.sz) = z := ⟨_, rfl⟩
                rw [hSI] at NB S0 S1 pl
                clear PE hSI
                by_cases hz : (0 : Int) < (k : Int)
                · have EE := hide (S1.out (by omega))
                  have m1 : ¬ 9223372036854775807 < S1B.size + 2 := by omega
                  have m2 : ¬ 9223372036854775807 < S1B.size + 2 + SI.size := by omega
                  clear S0 S1
                  go_wp2_with fail
                  refine (NB.out wr).mono ?_
                  rintro e w3 ⟨rfl, hb4⟩
                  have HB4 := hide (HBR.out.trans (hb4.mono HBR.out.size))
                  clear hb4
                  go_wp2_with fail
                  go_roundw
                  case rel => exact ⟨k + 1, by omega, by go_num, by rw [HS2.out, EE.out], L1, HB4⟩
                  case measure => simp [RowKit.intOf] <;> omega
                · have EE := hide (S0.out (by omega))
                  have hz2 : decide ((0 : Int) < (k : Int)) = false := by simpa using hz
                  have m2 : ¬ 9223372036854775807 < S1B.size + SI.size := by omega
                  clear S0 S1
                  go_wp2_with fail
                  refine (NB.out wr).mono ?_
                  rintro e w3 ⟨rfl, hb4⟩
                  have HB4 := hide (HBR.out.trans (hb4.mono HBR.out.size))
                  clear hb4
                  go_wp2_with fail
                  go_roundw
                  case rel => exact ⟨k + 1, by omega, by go_num, by rw [HS2.out, EE.out], L1, HB4⟩
                  case measure => simp [RowKit.intOf] <;> omega
              · rw [he] at S0 S1 pl
                have heI : ((U[k]).toNat : Int) = 114 := by omega
                have HE := hide he
                clear he
                have PE : pcT c 114 = itoa c.ro := rfl
                rw [PE] at S0 S1 pl
                have NB := hide (fun w' => number16_b c.ro HO.out.ro.1 HO.out.ro.2 w')
                obtain ⟨SI, hSI⟩ : ∃ z, bytes (itoa c.ro) = z := ⟨_, rfl⟩
                rw [hSI] at NB S0 S1 pl
                clear PE hSI
                by_cases hz : (0 : Int) < (k : Int)
                · have EE := hide (S1.out (by omega))
                  have m1 : ¬ 9223372036854775807 < S1B.size + 2 := by omega
                  have m2 : ¬ 9223372036854775807 < S1B.size + 2 + SI.size := by omega
                  clear S0 S1
                  go_wp2_with fail
                  refine (NB.out wr).mono ?_
                  rintro e w3 ⟨rfl, hb4⟩
                  have HB4 := hide (HBR.out.trans (hb4.mono HBR.out.size))
                  clear hb4
                  go_wp2_with fail
                  go_roundw
                  case rel => exact ⟨k + 1, by omega, by go_num, by rw [HS2.out, EE.out], L1, HB4⟩
                  case measure => simp [RowKit.intOf] <;> omega
                · have EE := hide (S0.out (by omega))
                  have hz2 : decide ((0 : Int) < (k : Int)) = false := by simpa using hz
                  have m2 : ¬ 9223372036854775807 < S1B.size + SI.size := by omega
                  clear S0 S1
                  go_wp2_with fail
                  refine (NB.out wr).mono ?_
                  rintro e w3 ⟨rfl, hb4⟩
                  have HB4 := hide (HBR.out.trans (hb4.mono HBR.out.size))
                  clear hb4
                  go_wp2_with fail
                  go_roundw
                  case rel => exact ⟨k + 1, by omega, by go_num, by rw [HS2.out, EE.out], L1, HB4⟩
                  case measure => simp [RowKit.intOf] <;> omega
              · rw [he] at S0 S1 pl
                have heI : ((U[k]).toNat : Int) = 111 := by omega
                have HE := hide he
                clear he
                have PE : pcT c 111 = redL c.op := rfl
                rw [PE] at S0 S1 pl
                have NB := hide (fun w' => red_b c.op ⟨HO.out.op.1, HOP.out⟩ w')
                obtain ⟨SI, hSI⟩ : ∃ z, bytes (redL c.op) = z := ⟨_, rfl⟩
                rw [hSI] at NB S0 S1 pl
                clear PE hSI
                by_cases hz : (0 : Int) < (k : Int)
                · have EE := hide (S1.out (by omega))
                  have m1 : ¬ 9223372036854775807 < S1B.size + 2 := by omega
                  have m2 : ¬ 9223372036854775807 < S1B.size + 2 + SI.size := by omega
                  clear S0 S1
                  go_wp2_with fail
                  refine (NB.out wr).mono ?_
                  rintro e w3 ⟨rfl, rfl⟩
                  have HB4 := HBR
                  go_wp2_with fail
                  go_roundw
                  case rel => exact ⟨k + 1, by omega, by go_num, by rw [HS2.out, EE.out], L1, HB4⟩
                  case measure => simp [RowKit.intOf] <;> omega
                · have EE := hide (S0.out (by omega))
                  have hz2 : decide ((0 : Int) < (k : Int)) = false := by simpa using hz
                  have m2 : ¬ 9223372036854775807 < S1B.size + SI.size := by omega
                  clear S0 S1
                  go_wp2_with fail
                  refine (NB.out wr).mono ?_
                  rintro e w3 ⟨rfl, rfl⟩
                  have HB4 := HBR
                  go_wp2_with fail
                  go_roundw
                  case rel => exact ⟨k + 1, by omega, by go_num, by rw [HS2.out, EE.out], L1, HB4⟩
                  case measure => simp [RowKit.intOf] <;> omega
              · rw [he] at S0 S1 pl
                have heI : ((U[k]).toNat : Int) = 107 := by omega
                have HE := hide he
                clear he
                have PE : pcT c 107 = (itoa c.cl ++ [44, 32]) ++ itoa c.ky := rfl
                rw [PE] at S0 S1 pl
                have N1 := hide (fun w' => number16_b c.cl HO.out.cl.1 HO.out.cl.2 w')
                have N2 := hide (fun w' => number16_b c.ky HO.out.ky.1 HO.out.ky.2 w')
                have PB : bytes ((itoa c.cl ++ [44, 32]) ++ itoa c.ky) = bytes (itoa c.cl) ++ ⟨#[44, 32]⟩ ++ bytes (itoa c.ky) := by rw [show (⟨#[44, 32]⟩ : ByteArray) = bytes [44, 32] from rfl, bytes_app, bytes_app]
                rw [PB] at S0 S1 pl
                have p1 : (bytes (itoa c.cl)).size ≤ 21 := by rw [bytes_size]; exact Told.fit_len HO.out.cl
                have p2 : (bytes (itoa c.ky)).size ≤ 21 := by rw [bytes_size]; exact Told.fit_len HO.out.ky
                obtain ⟨SI, hSI⟩ : ∃ z, bytes (itoa c.cl) = z := ⟨_, rfl⟩
                obtain ⟨SJ, hSJ⟩ : ∃ z, bytes (itoa c.ky) = z := ⟨_, rfl⟩
                rw [hSI] at N1 S0 S1 p1
                rw [hSJ] at N2 S0 S1 p2
                clear pl PB PE hSI hSJ
                by_cases hz : (0 : Int) < (k : Int)
                · have EE := hide (S1.out (by omega))
                  have m1 : ¬ 9223372036854775807 < S1B.size + 2 := by omega
                  have m2 : ¬ 9223372036854775807 < S1B.size + 2 + SI.size := by omega
                  have m3 : ¬ 9223372036854775807 < S1B.size + 2 + SI.size + 2 := by omega
                  have m4 : ¬ 9223372036854775807 < S1B.size + 2 + SI.size + 2 + SJ.size := by omega
                  clear S0 S1
                  go_upto_region 26 with (fail)
                  have ne : Nonempty (BelowOf wr) := ⟨⟨wr, Below.refl _ _⟩⟩
                  have q9 : ∀ p : BelowOf wr, p.world.cell? ⟨X, 9, none⟩ = some (.int .i64 c.cl) := fun p => p.cell XL.out q9
                  have q10 : ∀ p : BelowOf wr, p.world.cell? ⟨X, 10, none⟩ = some (.int .i64 c.ky) := fun p => p.cell XL.out q10
                  refine wp_region_quiet_below (by kernel_rfl) (by kernel_rfl) ?_
                  repeat (go_big_quiet_step (first
                    | (go_at_call_of 30 (Value.int .i64 c.cl); refine calls_below (N1.out _))
                    | (go_at_call_of 30 (Value.int .i64 c.ky); refine calls_below (N2.out _))))
                  refine wpQuiet_nil ?_
                  rintro w3 ⟨⟨_, hb4⟩, rfl⟩
                  have HB4 := hide (HBR.out.trans (hb4.mono HBR.out.size))
                  clear hb4 q9 q10
                  go_wp2_with fail
                  go_roundw
                  case rel => exact ⟨k + 1, by omega, by go_num, by rw [HS2.out, EE.out]; simp only [ByteArray.append_assoc], L1, HB4⟩
                  case measure => simp [RowKit.intOf] <;> omega
                · have EE := hide (S0.out (by omega))
                  have hz2 : decide ((0 : Int) < (k : Int)) = false := by simpa using hz
                  have m2 : ¬ 9223372036854775807 < S1B.size + SI.size := by omega
                  have m3 : ¬ 9223372036854775807 < S1B.size + SI.size + 2 := by omega
                  have m4 : ¬ 9223372036854775807 < S1B.size + SI.size + 2 + SJ.size := by omega
                  clear S0 S1
                  go_upto_region 26 with (fail)
                  have ne : Nonempty (BelowOf wr) := ⟨⟨wr, Below.refl _ _⟩⟩
                  have q9 : ∀ p : BelowOf wr, p.world.cell? ⟨X, 9, none⟩ = some (.int .i64 c.cl) := fun p => p.cell XL.out q9
                  have q10 : ∀ p : BelowOf wr, p.world.cell? ⟨X, 10, none⟩ = some (.int .i64 c.ky) := fun p => p.cell XL.out q10
                  refine wp_region_quiet_below (by kernel_rfl) (by kernel_rfl) ?_
                  repeat (go_big_quiet_step (first
                    | (go_at_call_of 30 (Value.int .i64 c.cl); refine calls_below (N1.out _))
                    | (go_at_call_of 30 (Value.int .i64 c.ky); refine calls_below (N2.out _))))
                  refine wpQuiet_nil ?_
                  rintro w3 ⟨⟨_, hb4⟩, rfl⟩
                  have HB4 := hide (HBR.out.trans (hb4.mono HBR.out.size))
                  clear hb4 q9 q10
                  go_wp2_with fail
                  go_roundw
                  case rel => exact ⟨k + 1, by omega, by go_num, by rw [HS2.out, EE.out]; simp only [ByteArray.append_assoc], L1, HB4⟩
                  case measure => simp [RowKit.intOf] <;> omega
              · rw [he] at S0 S1 pl
                have heI : ((U[k]).toNat : Int) = 108 := by omega
                have HE := hide he
                have H7 := hide h7
                clear he h7
                have PE : pcT c 108 = jnC c.rq := rfl
                rw [PE] at S0 S1 pl
                have NB := hide (fun w' (h : NRow w' ra c.rq) => list_b ra rc c.rq w' h HL.out HO.out.rq)
                obtain ⟨SI, hSI⟩ : ∃ z, bytes (jnC c.rq) = z := ⟨_, rfl⟩
                rw [hSI] at NB S0 S1 pl
                clear PE hSI
                by_cases hz : (0 : Int) < (k : Int)
                · have EE := hide (S1.out (by omega))
                  have m1 : ¬ 9223372036854775807 < S1B.size + 2 := by omega
                  have m2 : ¬ 9223372036854775807 < S1B.size + 2 + SI.size := by omega
                  clear S0 S1
                  go_wp2_with fail
                  refine (NB.out wr HRQ.out).mono ?_
                  rintro e w3 ⟨rfl, hb4⟩
                  have HB4 := hide (HBR.out.trans (hb4.mono HBR.out.size))
                  clear hb4
                  go_wp2_with fail
                  go_roundw
                  case rel => exact ⟨k + 1, by omega, by go_num, by rw [HS2.out, EE.out], L1, HB4⟩
                  case measure => simp [RowKit.intOf] <;> omega
                · have EE := hide (S0.out (by omega))
                  have hz2 : decide ((0 : Int) < (k : Int)) = false := by simpa using hz
                  have m2 : ¬ 9223372036854775807 < S1B.size + SI.size := by omega
                  clear S0 S1
                  go_wp2_with fail
                  refine (NB.out wr HRQ.out).mono ?_
                  rintro e w3 ⟨rfl, hb4⟩
                  have HB4 := hide (HBR.out.trans (hb4.mono HBR.out.size))
                  clear hb4
                  go_wp2_with fail
                  go_roundw
                  case rel => exact ⟨k + 1, by omega, by go_num, by rw [HS2.out, EE.out], L1, HB4⟩
                  case measure => simp [RowKit.intOf] <;> omega
end Cal
end Go.Proofs.YthcoelkpiflfeaaDoor
