/- The text of a call: the program. -/
import Derived.Test.YthcoelkpiflfeaaDoorRows
import Derived.Test.YthcoelkpiflfeaaDoorCtC
namespace Go.Proofs.YthcoelkpiflfeaaDoor
open Go Go.RowKit Go.Lib Go.Proofs.YthcoelkpiflfeaaDoor.Grp
set_option linter.unusedVariables false
set_option linter.unusedSimpArgs false
namespace Cal
theorem blk_i64 {w : World} {g : Nat} {t : TypeId} {l : List Int} (h : Blk w g t (i64s l).toArray) {j : Nat} (hj : j < l.length) : w.cell? ⟨g, j, none⟩ = some (.int .i64 (l.getD j 0)) := by
  rw [h.cell]
  have := i64s_at hj
  simpa using this
theorem no_text {c : Cl} (h : ¬ hasText c) : TextIs c (.returned (.tuple #[.string ⟨#[]⟩, .int .i64 160])) := .inr ⟨h, rfl⟩
set_option maxRecDepth 100000 in
set_option maxHeartbeats 16000000 in
theorem Text_c (c : Cl) (ra : Option Addr) (rc : Nat) (w : World) (hr : NRow w ra c.rq) (hl : c.rq.length ≤ 1000) (ho : c.ok) (hp : Pow w) (hd : Red w) :
    Calls Tryd.prog 7 #[.agg #[.int .u8 c.k, .int .i64 c.co, .int .i64 c.pe, .int .i64 c.tg, .int .i64 c.va, .int .i64 c.sz, .int .i64 c.ro, .int .u8 c.op, .slice ra c.rq.length rc, .int .i64 c.cl, .int .i64 c.ky]] w fun e w' => TextIs c e ∧ Below w.heap.size w w' := by
  have hb1 := (Below.refl w.heap.size w).alloc (Nat.le_refl _) (.cells #[.int .u8 c.k, .int .i64 c.co, .int .i64 c.pe, .int .i64 c.tg, .int .i64 c.va, .int .i64 c.sz, .int .i64 c.ro, .int .u8 c.op, .slice ra c.rq.length rc, .int .i64 c.cl, .int .i64 c.ky] 24)
  have k1 := Blk.new w 24 #[.int .u8 c.k, .int .i64 c.co, .int .i64 c.pe, .int .i64 c.tg, .int .i64 c.va, .int .i64 c.sz, .int .i64 c.ro, .int .u8 c.op, .slice ra c.rq.length rc, .int .i64 c.cl, .int .i64 c.ky]
  go_enter Tryd.func7, Tryd.ntmps7
  go_upto_region 1 with (fail)
  obtain ⟨w1, hw1⟩ : ∃ z, w.alloc (.cells #[.int .u8 c.k, .int .i64 c.co, .int .i64 c.pe, .int .i64 c.tg, .int .i64 c.va, .int .i64 c.sz, .int .i64 c.ro, .int .u8 c.op, .slice ra c.rq.length rc, .int .i64 c.cl, .int .i64 c.ky] 24) = z := ⟨_, rfl⟩
  rw [hw1] at hb1 k1 ⊢
  have HR1 := hide (hr.below hb1)
  have HP1 := hide (hp.below hb1 (Nat.le_refl _))
  have HD1 := hide (hd.below hb1 (Nat.le_refl _))
  have HB1 := hide (And.intro hb1 hb1.size)
  have HO := hide ho
  have HL := hide hl
  have HL5 := hide (show c.rq.length ≤ 100000 by omega)
  obtain ⟨X, hX⟩ : ∃ X, w.heap.size = X := ⟨_, rfl⟩
  have HX := hide hX
  rw [hX] at k1 HB1
  rw [hX]
  have K1 := hide k1
  have US := hide (used_c c.k w1)
  have p0 : w1.cell? ⟨X, 0, none⟩ = some (.int .u8 c.k) := k1.cell 0
  have hw8 : IntKind.i64.wrap c.op = c.op := by rw [IntKind.wrap_i64]; have := ho.op; omega
  have HTRL : Hid ((trimC c).rq.length ≤ 100000) := hide (by
    show (if hasF c.k 7 then c.rq else []).length ≤ 100000
    split
    · omega
    · exact Nat.zero_le _)
  clear hb1 k1 hw1 hX hr hl ho hp hd
  go_wp2_with fail
  refine US.out.mono ?_
  rintro e w4 ⟨v, rfl, hv, hb4⟩
  have HB4 := hide (And.intro (HB1.out.1.trans (hb4.mono HB1.out.2)) (Nat.le_trans HB1.out.2 hb4.size))
  have K4 := hide (K1.out.below hb4 K1.out.lt)
  have HR4 := hide (HR1.out.below hb4)
  have HP4 := hide (HP1.out.below hb4 (Nat.le_refl _))
  have HD4 := hide (HD1.out.below hb4 (Nat.le_refl _))
  clear hb4 HB1 K1 HR1 HP1 HD1 US p0
  rcases hv with ⟨h0, rfl⟩ | ⟨g, hn, rfl, hge, hg⟩
  · have NT : Hid (¬ hasText c) := hide (fun h => h.1 h0)
    go_wp2_with fail
    let R : Nat → Value → World → Prop := fun sl u w1 => match sl with
      | 12 => u = .slice none 0 0
      | 13 => u = .int .i64 0
      | 14 => u = .bool true
      | 15 => u = .bool true
      | 21 => u = .bool true
      | 22 => u = .bool true
      | 27 => u = .bool true
      | _ => True
    let G0 : Nat → Bool := fun i => match i with | 4 => false | 5 => false | 6 => false | 7 => false | 8 => false | 11 => false | 12 => false | 13 => false | 14 => false | _ => true
    refine wp_region_relG G0 R (fun a b => Below a.heap.size a b) (fun _ w => Below w4.heap.size w4 w) (by kernel_rfl) (by kernel_rfl) (by kernel_rfl) ?mono (fun w => Below.refl _ _) ((Below.refl _ _).drew) (by kernel_rfl) ?gg ?step ?skip ?fin
    case mono =>
      intro sl u wx wy h hk
      match sl with
      | 0 | 1 | 2 | 3 | 4 | 5 | 6 | 7 | 8 | 9 | 10 | 11 | 12 | 13 | 14 | 15 | 16 | 17 | 18 | 19 | 20 | 21 | 22 | 23 | 24 | 25 | 26 | 27 | _ + 28 => exact h
    case gg =>
      intro i o g b o' t u w ho hg hg1 hd hr
      match i, ho with
      | 0, ho => cases ho; cases hg
      | 1, ho => cases ho; cases hg
      | 2, ho => cases ho; cases hg
      | 3, ho => cases ho; cases hg
      | 4, ho =>
        cases ho; cases hg; cases hg1; cases hd
        have e : u = .bool true := hr
        rw [e]; rfl
      | 5, ho =>
        cases ho; cases hg; cases hg1; cases hd
        have e : u = .bool true := hr
        rw [e]; rfl
      | 6, ho =>
        cases ho; cases hg; cases hg1; cases hd
        have e : u = .bool true := hr
        rw [e]; rfl
      | 7, ho =>
        cases ho; cases hg; cases hg1; cases hd
        have e : u = .bool true := hr
        rw [e]; rfl
      | 8, ho =>
        cases ho; cases hg; cases hg1; cases hd
        have e : u = .bool true := hr
        rw [e]; rfl
      | 9, ho => cases ho; cases hg
      | 10, ho => cases ho; cases hg
      | 11, ho =>
        cases ho; cases hg; cases hg1; cases hd
        have e : u = .bool true := hr
        rw [e]; rfl
      | 12, ho =>
        cases ho; cases hg; cases hg1; cases hd
        have e : u = .bool true := hr
        rw [e]; rfl
      | 13, ho =>
        cases ho; cases hg; cases hg1; cases hd
        have e : u = .bool true := hr
        rw [e]; rfl
      | 14, ho =>
        cases ho; cases hg; cases hg1; cases hd
        have e : u = .bool true := hr
        rw [e]; rfl
      | 15, ho => cases ho; cases hg
      | _ + 16, ho => cases ho
    case skip =>
      intro i o ho hG V w hV hj
      match i, ho with
      | 0, ho => exact absurd hG (by show ¬ (true = false); decide)
      | 1, ho => exact absurd hG (by show ¬ (true = false); decide)
      | 2, ho => exact absurd hG (by show ¬ (true = false); decide)
      | 3, ho => exact absurd hG (by show ¬ (true = false); decide)
      | 4, ho => cases ho; exact ⟨fun t ht => by cases ht; trivial, hj⟩
      | 5, ho => cases ho; exact ⟨fun t ht => by cases ht; trivial, hj⟩
      | 6, ho => cases ho; exact ⟨fun t ht => by cases ht; trivial, hj⟩
      | 7, ho => cases ho; exact ⟨fun t ht => by cases ht; trivial, hj⟩
      | 8, ho => cases ho; exact ⟨fun t ht => by cases ht; trivial, hj⟩
      | 9, ho => exact absurd hG (by show ¬ (true = false); decide)
      | 10, ho => exact absurd hG (by show ¬ (true = false); decide)
      | 11, ho => cases ho; exact ⟨fun t ht => by cases ht; trivial, hj⟩
      | 12, ho => cases ho; exact ⟨fun t ht => by cases ht; trivial, hj⟩
      | 13, ho => cases ho; exact ⟨fun t ht => by cases ht; trivial, hj⟩
      | 14, ho => cases ho; exact ⟨fun t ht => by cases ht; trivial, hj⟩
      | 15, ho => exact absurd hG (by show ¬ (true = false); decide)
      | _ + 16, ho => cases ho
    case step =>
      intro j o ho hG
      match j, ho with
      | 0, ho =>
        cases ho
        intro V aa wx hV hdep hval hj hsm hr
        have e4 : aa.tmps.getD 4 undef = .slice none 0 0 := hsm 4 (by decide)
        rw [Array.getD_eq_getD_getElem?] at e4
        unfold Oper.wp
        simp only [execOp, Act.eval, Array.getD_eq_getD_getElem?, e4]
        go_simp
        first | exact ⟨_, rfl, rfl, Below.refl _ _⟩ | exact ⟨_, rfl, rfl, Below.refl _ _, hj⟩ | exact ⟨_, rfl, Below.refl _ _, hj⟩ | exact ⟨_, rfl, hj⟩
      | 1, ho =>
        cases ho
        intro V aa wx hV hdep hval hj hsm hr
        have e12 : aa.tmps.getD 12 undef = .slice none 0 0 := hr 12 (by decide) (by apply Array.mem_toList_iff.1; repeat (first | exact List.Mem.head _ | apply List.Mem.tail))
        rw [Array.getD_eq_getD_getElem?] at e12
        unfold Oper.wp
        simp only [execOp, Act.eval, Array.getD_eq_getD_getElem?, e12]
        go_simp
        first | exact ⟨_, rfl, rfl, Below.refl _ _⟩ | exact ⟨_, rfl, rfl, Below.refl _ _, hj⟩ | exact ⟨_, rfl, Below.refl _ _, hj⟩ | exact ⟨_, rfl, hj⟩
      | 2, ho =>
        cases ho
        intro V aa wx hV hdep hval hj hsm hr
        have e13 : aa.tmps.getD 13 undef = .int .i64 0 := hr 13 (by decide) (by apply Array.mem_toList_iff.1; repeat (first | exact List.Mem.head _ | apply List.Mem.tail))
        rw [Array.getD_eq_getD_getElem?] at e13
        unfold Oper.wp
        simp only [execOp, Act.eval, Array.getD_eq_getD_getElem?, e13]
        go_simp
        first | exact ⟨_, rfl, rfl, Below.refl _ _⟩ | exact ⟨_, rfl, rfl, Below.refl _ _, hj⟩ | exact ⟨_, rfl, Below.refl _ _, hj⟩ | exact ⟨_, rfl, hj⟩
      | 3, ho =>
        cases ho
        intro V aa wx hV hdep hval hj hsm hr
        have e14 : aa.tmps.getD 14 undef = .bool true := hr 14 (by decide) (by apply Array.mem_toList_iff.1; repeat (first | exact List.Mem.head _ | apply List.Mem.tail))
        rw [Array.getD_eq_getD_getElem?] at e14
        unfold Oper.wp
        simp only [execOp, Act.eval, Array.getD_eq_getD_getElem?, e14]
        go_simp
        first | exact ⟨_, rfl, rfl, Below.refl _ _⟩ | exact ⟨_, rfl, rfl, Below.refl _ _, hj⟩ | exact ⟨_, rfl, Below.refl _ _, hj⟩ | exact ⟨_, rfl, hj⟩
      | 4, ho => exact absurd hG (by show ¬ (false = true); decide)
      | 5, ho => exact absurd hG (by show ¬ (false = true); decide)
      | 6, ho => exact absurd hG (by show ¬ (false = true); decide)
      | 7, ho => exact absurd hG (by show ¬ (false = true); decide)
      | 8, ho => exact absurd hG (by show ¬ (false = true); decide)
      | 9, ho =>
        cases ho
        intro V aa wx hV hdep hval hj hsm hr
        have e15 : aa.tmps.getD 15 undef = .bool true := hr 15 (by decide) (by apply Array.mem_toList_iff.1; repeat (first | exact List.Mem.head _ | apply List.Mem.tail))
        rw [Array.getD_eq_getD_getElem?] at e15
        unfold Oper.wp
        simp only [execOp, Act.eval, Array.getD_eq_getD_getElem?, e15]
        go_simp
        first | exact ⟨_, rfl, rfl, Below.refl _ _⟩ | exact ⟨_, rfl, rfl, Below.refl _ _, hj⟩ | exact ⟨_, rfl, Below.refl _ _, hj⟩ | exact ⟨_, rfl, hj⟩
      | 10, ho =>
        cases ho
        intro V aa wx hV hdep hval hj hsm hr
        have e21 : aa.tmps.getD 21 undef = .bool true := hr 21 (by decide) (by apply Array.mem_toList_iff.1; repeat (first | exact List.Mem.head _ | apply List.Mem.tail))
        rw [Array.getD_eq_getD_getElem?] at e21
        unfold Oper.wp
        simp only [execOp, Act.eval, Array.getD_eq_getD_getElem?, e21]
        go_simp
        first | exact ⟨_, rfl, rfl, Below.refl _ _⟩ | exact ⟨_, rfl, rfl, Below.refl _ _, hj⟩ | exact ⟨_, rfl, Below.refl _ _, hj⟩ | exact ⟨_, rfl, hj⟩
      | 11, ho => exact absurd hG (by show ¬ (false = true); decide)
      | 12, ho => exact absurd hG (by show ¬ (false = true); decide)
      | 13, ho => exact absurd hG (by show ¬ (false = true); decide)
      | 14, ho => exact absurd hG (by show ¬ (false = true); decide)
      | 15, ho =>
        cases ho
        intro V aa wx hV hdep hval hj hsm hr
        have e22 : aa.tmps.getD 22 undef = .bool true := hr 22 (by decide) (by apply Array.mem_toList_iff.1; repeat (first | exact List.Mem.head _ | apply List.Mem.tail))
        rw [Array.getD_eq_getD_getElem?] at e22
        unfold Oper.wp
        simp only [execOp, Act.eval, Array.getD_eq_getD_getElem?, e22]
        go_simp
        first | exact ⟨_, rfl, rfl, Below.refl _ _⟩ | exact ⟨_, rfl, rfl, Below.refl _ _, hj⟩ | exact ⟨_, rfl, Below.refl _ _, hj⟩ | exact ⟨_, rfl, hj⟩
      | _ + 16, ho => cases ho
    case fin =>
      intro ff V w5 hV hj hr
      have e27 : ff 27 = .bool true := hr 27 (by decide)
      have HB5 := hide (HB4.out.1.trans (hj.mono HB4.out.2))
      clear hV hr
      simp only [putAll, slotsOf, List.filterMap_cons, List.filterMap_nil, List.foldl_cons, List.foldl_nil, Act.put, e27]
      simp only [List.setIfInBounds_toArray, List.set_cons_succ, List.set_cons_zero]
      go_wp2_with fail
      exact bodyPost_ret (v := .tuple #[.string ⟨#[]⟩, .int .i64 160]) (by simp [results, Tryd.results7, go_sem]) rfl ⟨no_text NT.out, by rw [HX.out]; exact HB5.out⟩
  · have HG := hide hg
    have HNE : Hid (usedL c.k ≠ []) := hide (fun e => by rw [e] at hn; simp at hn)
    have HLT := hide hn
    have HU5 := hide (used_len c.k)
    obtain ⟨n, hnn⟩ : ∃ n, (usedL c.k).length = n := ⟨_, rfl⟩
    have HNN := hide hnn
    have hn1 : ((n : Int) == 0) = false := by
      have : ¬ (n : Int) = 0 := by rw [hnn] at hn; omega
      simpa using this
    obtain ⟨bs, hbs⟩ : ∃ b, decide (c = trimC c) = b := ⟨_, rfl⟩
    have HBS := hide hbs
    obtain ⟨b3, hb3⟩ : ∃ b, decide ((3 : Int) ≤ c.op) = b := ⟨_, rfl⟩
    have HB3 := hide hb3
    rw [hnn]
    clear hg hn hnn hbs hb3 hge
    cases bs with
    | false =>
      have NT : Hid (¬ hasText c) := hide (fun h => by have := of_decide_eq_false HBS.out; exact this h.2.1)
      go_wp2_with fail
      let R : Nat → Value → World → Prop := fun sl u w1 => match sl with
        | 12 => u = .slice (some ⟨g, 0, none⟩) n n
        | 13 => u = .int .i64 n
        | 14 => u = .bool false
        | 15 => u = .bool false
        | 16 => u = .agg #[.int .u8 c.k, .int .i64 c.co, .int .i64 c.pe, .int .i64 c.tg, .int .i64 c.va, .int .i64 c.sz, .int .i64 c.ro, .int .u8 c.op, .slice ra c.rq.length rc, .int .i64 c.cl, .int .i64 c.ky]
        | 17 => u = .agg #[.int .u8 c.k, .int .i64 c.co, .int .i64 c.pe, .int .i64 c.tg, .int .i64 c.va, .int .i64 c.sz, .int .i64 c.ro, .int .u8 c.op, .slice ra c.rq.length rc, .int .i64 c.cl, .int .i64 c.ky]
        | 18 => ∃ rb rd, u = .agg ((trimC c).A rb rd) ∧ NRow w1 rb (trimC c).rq
        | 19 => u = .bool false
        | 20 => u = .bool true
        | 21 => u = .bool true
        | 22 => u = .bool true
        | 27 => u = .bool true
        | _ => True
      let G0 : Nat → Bool := fun i => match i with | 11 => false | 12 => false | 13 => false | 14 => false | _ => true
      refine wp_region_relG G0 R (fun a b => Below a.heap.size a b) (fun _ w => Below w4.heap.size w4 w) (by kernel_rfl) (by kernel_rfl) (by kernel_rfl) ?mono (fun w => Below.refl _ _) ((Below.refl _ _).drew) (by kernel_rfl) ?gg ?step ?skip ?fin
      case mono =>
        intro sl u wx wy h hk
        match sl with
        | 18 =>
          obtain ⟨rb, rd, h1, h2⟩ := h
          exact ⟨rb, rd, h1, h2.below hk⟩
        | 0 | 1 | 2 | 3 | 4 | 5 | 6 | 7 | 8 | 9 | 10 | 11 | 12 | 13 | 14 | 15 | 16 | 17 | 19 | 20 | 21 | 22 | 23 | 24 | 25 | 26 | 27 | _ + 28 => exact h
      case gg =>
        intro i o g b o' t u w ho hg hg1 hd hr
        match i, ho with
        | 0, ho => cases ho; cases hg
        | 1, ho => cases ho; cases hg
        | 2, ho => cases ho; cases hg
        | 3, ho => cases ho; cases hg
        | 4, ho =>
          cases ho; cases hg; cases hg1; cases hd
          have e : u = .bool false := hr
          rw [e]; rfl
        | 5, ho =>
          cases ho; cases hg; cases hg1; cases hd
          have e : u = .bool false := hr
          rw [e]; rfl
        | 6, ho =>
          cases ho; cases hg; cases hg1; cases hd
          have e : u = .bool false := hr
          rw [e]; rfl
        | 7, ho =>
          cases ho; cases hg; cases hg1; cases hd
          have e : u = .bool false := hr
          rw [e]; rfl
        | 8, ho =>
          cases ho; cases hg; cases hg1; cases hd
          have e : u = .bool false := hr
          rw [e]; rfl
        | 9, ho => cases ho; cases hg
        | 10, ho => cases ho; cases hg
        | 11, ho =>
          cases ho; cases hg; cases hg1; cases hd
          have e : u = .bool true := hr
          rw [e]; rfl
        | 12, ho =>
          cases ho; cases hg; cases hg1; cases hd
          have e : u = .bool true := hr
          rw [e]; rfl
        | 13, ho =>
          cases ho; cases hg; cases hg1; cases hd
          have e : u = .bool true := hr
          rw [e]; rfl
        | 14, ho =>
          cases ho; cases hg; cases hg1; cases hd
          have e : u = .bool true := hr
          rw [e]; rfl
        | 15, ho => cases ho; cases hg
        | _ + 16, ho => cases ho
      case skip =>
        intro i o ho hG V w hV hj
        match i, ho with
        | 0, ho => exact absurd hG (by show ¬ (true = false); decide)
        | 1, ho => exact absurd hG (by show ¬ (true = false); decide)
        | 2, ho => exact absurd hG (by show ¬ (true = false); decide)
        | 3, ho => exact absurd hG (by show ¬ (true = false); decide)
        | 4, ho => exact absurd hG (by show ¬ (true = false); decide)
        | 5, ho => exact absurd hG (by show ¬ (true = false); decide)
        | 6, ho => exact absurd hG (by show ¬ (true = false); decide)
        | 7, ho => exact absurd hG (by show ¬ (true = false); decide)
        | 8, ho => exact absurd hG (by show ¬ (true = false); decide)
        | 9, ho => exact absurd hG (by show ¬ (true = false); decide)
        | 10, ho => exact absurd hG (by show ¬ (true = false); decide)
        | 11, ho => cases ho; exact ⟨fun t ht => by cases ht; trivial, hj⟩
        | 12, ho => cases ho; exact ⟨fun t ht => by cases ht; trivial, hj⟩
        | 13, ho => cases ho; exact ⟨fun t ht => by cases ht; trivial, hj⟩
        | 14, ho => cases ho; exact ⟨fun t ht => by cases ht; trivial, hj⟩
        | 15, ho => exact absurd hG (by show ¬ (true = false); decide)
        | _ + 16, ho => cases ho
      case step =>
        intro j o ho hG
        match j, ho with
        | 0, ho =>
          cases ho
          intro V aa wx hV hdep hval hj hsm hr
          have e4 : aa.tmps.getD 4 undef = .slice (some ⟨g, 0, none⟩) n n := hsm 4 (by decide)
          rw [Array.getD_eq_getD_getElem?] at e4
          unfold Oper.wp
          simp only [execOp, Act.eval, Array.getD_eq_getD_getElem?, e4]
          go_simp
          first | exact ⟨_, rfl, rfl, Below.refl _ _⟩ | exact ⟨_, rfl, rfl, Below.refl _ _, hj⟩ | exact ⟨_, rfl, Below.refl _ _, hj⟩ | exact ⟨_, rfl, hj⟩
        | 1, ho =>
          cases ho
          intro V aa wx hV hdep hval hj hsm hr
          have e12 : aa.tmps.getD 12 undef = .slice (some ⟨g, 0, none⟩) n n := hr 12 (by decide) (by apply Array.mem_toList_iff.1; repeat (first | exact List.Mem.head _ | apply List.Mem.tail))
          rw [Array.getD_eq_getD_getElem?] at e12
          unfold Oper.wp
          simp only [execOp, Act.eval, Array.getD_eq_getD_getElem?, e12]
          go_simp
          first | exact ⟨_, rfl, rfl, Below.refl _ _⟩ | exact ⟨_, rfl, rfl, Below.refl _ _, hj⟩ | exact ⟨_, rfl, Below.refl _ _, hj⟩ | exact ⟨_, rfl, hj⟩
        | 2, ho =>
          cases ho
          intro V aa wx hV hdep hval hj hsm hr
          have e13 : aa.tmps.getD 13 undef = .int .i64 n := hr 13 (by decide) (by apply Array.mem_toList_iff.1; repeat (first | exact List.Mem.head _ | apply List.Mem.tail))
          rw [Array.getD_eq_getD_getElem?] at e13
          unfold Oper.wp
          simp only [execOp, Act.eval, Array.getD_eq_getD_getElem?, e13]
          go_simp
          first | exact ⟨_, rfl, rfl, Below.refl _ _⟩ | exact ⟨_, rfl, rfl, Below.refl _ _, hj⟩ | exact ⟨_, rfl, Below.refl _ _, hj⟩ | exact ⟨_, rfl, hj⟩
        | 3, ho =>
          cases ho
          intro V aa wx hV hdep hval hj hsm hr
          have e14 : aa.tmps.getD 14 undef = .bool false := hr 14 (by decide) (by apply Array.mem_toList_iff.1; repeat (first | exact List.Mem.head _ | apply List.Mem.tail))
          rw [Array.getD_eq_getD_getElem?] at e14
          unfold Oper.wp
          simp only [execOp, Act.eval, Array.getD_eq_getD_getElem?, e14]
          go_simp
          first | exact ⟨_, rfl, rfl, Below.refl _ _⟩ | exact ⟨_, rfl, rfl, Below.refl _ _, hj⟩ | exact ⟨_, rfl, Below.refl _ _, hj⟩ | exact ⟨_, rfl, hj⟩
        | 4, ho =>
          cases ho
          intro V aa wx hV hdep hval hj hsm hr
          have e1 : aa.tmps.getD 1 undef = .pointer (some ⟨X, 0, none⟩) := hsm 1 (by decide)
          have hkb := K4.out.below hj K4.out.lt
          have cc0 : wx.cell? ⟨X, 0, none⟩ = some (.int .u8 c.k) := hkb.cell 0
          have cc1 : wx.cell? ⟨X, 1, none⟩ = some (.int .i64 c.co) := hkb.cell 1
          have cc2 : wx.cell? ⟨X, 2, none⟩ = some (.int .i64 c.pe) := hkb.cell 2
          have cc3 : wx.cell? ⟨X, 3, none⟩ = some (.int .i64 c.tg) := hkb.cell 3
          have cc4 : wx.cell? ⟨X, 4, none⟩ = some (.int .i64 c.va) := hkb.cell 4
          have cc5 : wx.cell? ⟨X, 5, none⟩ = some (.int .i64 c.sz) := hkb.cell 5
          have cc6 : wx.cell? ⟨X, 6, none⟩ = some (.int .i64 c.ro) := hkb.cell 6
          have cc7 : wx.cell? ⟨X, 7, none⟩ = some (.int .u8 c.op) := hkb.cell 7
          have cc8 : wx.cell? ⟨X, 8, none⟩ = some (.slice ra c.rq.length rc) := hkb.cell 8
          have cc9 : wx.cell? ⟨X, 9, none⟩ = some (.int .i64 c.cl) := hkb.cell 9
          have cc10 : wx.cell? ⟨X, 10, none⟩ = some (.int .i64 c.ky) := hkb.cell 10
          rw [Array.getD_eq_getD_getElem?] at e1
          unfold Oper.wp
          simp only [execOp, Act.eval, Array.getD_eq_getD_getElem?, e1]
          go_simp
          first | exact ⟨_, rfl, rfl, Below.refl _ _⟩ | exact ⟨_, rfl, rfl, Below.refl _ _, hj⟩ | exact ⟨_, rfl, Below.refl _ _, hj⟩ | exact ⟨_, rfl, hj⟩
        | 5, ho =>
          cases ho
          intro V aa wx hV hdep hval hj hsm hr
          have e1 : aa.tmps.getD 1 undef = .pointer (some ⟨X, 0, none⟩) := hsm 1 (by decide)
          have hkb := K4.out.below hj K4.out.lt
          have cc0 : wx.cell? ⟨X, 0, none⟩ = some (.int .u8 c.k) := hkb.cell 0
          have cc1 : wx.cell? ⟨X, 1, none⟩ = some (.int .i64 c.co) := hkb.cell 1
          have cc2 : wx.cell? ⟨X, 2, none⟩ = some (.int .i64 c.pe) := hkb.cell 2
          have cc3 : wx.cell? ⟨X, 3, none⟩ = some (.int .i64 c.tg) := hkb.cell 3
          have cc4 : wx.cell? ⟨X, 4, none⟩ = some (.int .i64 c.va) := hkb.cell 4
          have cc5 : wx.cell? ⟨X, 5, none⟩ = some (.int .i64 c.sz) := hkb.cell 5
          have cc6 : wx.cell? ⟨X, 6, none⟩ = some (.int .i64 c.ro) := hkb.cell 6
          have cc7 : wx.cell? ⟨X, 7, none⟩ = some (.int .u8 c.op) := hkb.cell 7
          have cc8 : wx.cell? ⟨X, 8, none⟩ = some (.slice ra c.rq.length rc) := hkb.cell 8
          have cc9 : wx.cell? ⟨X, 9, none⟩ = some (.int .i64 c.cl) := hkb.cell 9
          have cc10 : wx.cell? ⟨X, 10, none⟩ = some (.int .i64 c.ky) := hkb.cell 10
          rw [Array.getD_eq_getD_getElem?] at e1
          unfold Oper.wp
          simp only [execOp, Act.eval, Array.getD_eq_getD_getElem?, e1]
          go_simp
          first | exact ⟨_, rfl, rfl, Below.refl _ _⟩ | exact ⟨_, rfl, rfl, Below.refl _ _, hj⟩ | exact ⟨_, rfl, Below.refl _ _, hj⟩ | exact ⟨_, rfl, hj⟩
        | 6, ho =>
          cases ho
          intro V aa wx hV hdep hval hj hsm hr
          have e17 : aa.tmps.getD 17 undef = .agg #[.int .u8 c.k, .int .i64 c.co, .int .i64 c.pe, .int .i64 c.tg, .int .i64 c.va, .int .i64 c.sz, .int .i64 c.ro, .int .u8 c.op, .slice ra c.rq.length rc, .int .i64 c.cl, .int .i64 c.ky] := hr 17 (by decide) (by apply Array.mem_toList_iff.1; repeat (first | exact List.Mem.head _ | apply List.Mem.tail))
          rw [Array.getD_eq_getD_getElem?] at e17
          unfold Oper.wp
          simp only [execOp, Act.eval, Array.getD_eq_getD_getElem?, e17]
          go_simp
          refine (Trim_a c ra rc wx (HR4.out.below hj) HL5.out HO.out.op).mono ?_
          rintro e w' ⟨rb, rd, rfl, hown, hb⟩
          exact ⟨_, rfl, ⟨rb, rd, rfl, own_row hown rfl⟩, hb, hj.trans (hb.mono hj.size)⟩
        | 7, ho =>
          cases ho
          intro V aa wx hV hdep hval hj hsm hr
          have e16 : aa.tmps.getD 16 undef = .agg #[.int .u8 c.k, .int .i64 c.co, .int .i64 c.pe, .int .i64 c.tg, .int .i64 c.va, .int .i64 c.sz, .int .i64 c.ro, .int .u8 c.op, .slice ra c.rq.length rc, .int .i64 c.cl, .int .i64 c.ky] := hr 16 (by decide) (by apply Array.mem_toList_iff.1; repeat (first | exact List.Mem.head _ | apply List.Mem.tail))
          have r18 := hr 18 (by decide) (by apply Array.mem_toList_iff.1; repeat (first | exact List.Mem.head _ | apply List.Mem.tail))
          obtain ⟨rb, rd, e18, hn18⟩ := r18
          have e18 : aa.tmps.getD 18 undef = .agg ((trimC c).A rb rd) := e18
          rw [Array.getD_eq_getD_getElem?] at e16
          rw [Array.getD_eq_getD_getElem?] at e18
          unfold Oper.wp
          simp only [execOp, Act.eval, Array.getD_eq_getD_getElem?, e16, e18]
          go_simp
          refine (Same_a c (trimC c) ra rb rc rd wx (HR4.out.below hj) hn18 HL5.out HTRL.out).mono ?_
          rintro e w' ⟨rfl, hb⟩
          exact ⟨_, rfl, by show Value.bool (decide (c = trimC c)) = .bool _; rw [HBS.out], hb, hj.trans (hb.mono hj.size)⟩
        | 8, ho =>
          cases ho
          intro V aa wx hV hdep hval hj hsm hr
          have e19 : aa.tmps.getD 19 undef = .bool false := hr 19 (by decide) (by apply Array.mem_toList_iff.1; repeat (first | exact List.Mem.head _ | apply List.Mem.tail))
          rw [Array.getD_eq_getD_getElem?] at e19
          unfold Oper.wp
          simp only [execOp, Act.eval, Array.getD_eq_getD_getElem?, e19]
          go_simp
          first | exact ⟨_, rfl, rfl, Below.refl _ _⟩ | exact ⟨_, rfl, rfl, Below.refl _ _, hj⟩ | exact ⟨_, rfl, Below.refl _ _, hj⟩ | exact ⟨_, rfl, hj⟩
        | 9, ho =>
          cases ho
          intro V aa wx hV hdep hval hj hsm hr
          have e15 : aa.tmps.getD 15 undef = .bool false := hr 15 (by decide) (by apply Array.mem_toList_iff.1; repeat (first | exact List.Mem.head _ | apply List.Mem.tail))
          have e20 : aa.tmps.getD 20 undef = .bool true := hr 20 (by decide) (by apply Array.mem_toList_iff.1; repeat (first | exact List.Mem.head _ | apply List.Mem.tail))
          rw [Array.getD_eq_getD_getElem?] at e15
          rw [Array.getD_eq_getD_getElem?] at e20
          unfold Oper.wp
          simp only [execOp, Act.eval, Array.getD_eq_getD_getElem?, e15, e20]
          go_simp
          first | exact ⟨_, rfl, rfl, Below.refl _ _⟩ | exact ⟨_, rfl, rfl, Below.refl _ _, hj⟩ | exact ⟨_, rfl, Below.refl _ _, hj⟩ | exact ⟨_, rfl, hj⟩
        | 10, ho =>
          cases ho
          intro V aa wx hV hdep hval hj hsm hr
          have e21 : aa.tmps.getD 21 undef = .bool true := hr 21 (by decide) (by apply Array.mem_toList_iff.1; repeat (first | exact List.Mem.head _ | apply List.Mem.tail))
          rw [Array.getD_eq_getD_getElem?] at e21
          unfold Oper.wp
          simp only [execOp, Act.eval, Array.getD_eq_getD_getElem?, e21]
          go_simp
          first | exact ⟨_, rfl, rfl, Below.refl _ _⟩ | exact ⟨_, rfl, rfl, Below.refl _ _, hj⟩ | exact ⟨_, rfl, Below.refl _ _, hj⟩ | exact ⟨_, rfl, hj⟩
        | 11, ho => exact absurd hG (by show ¬ (false = true); decide)
        | 12, ho => exact absurd hG (by show ¬ (false = true); decide)
        | 13, ho => exact absurd hG (by show ¬ (false = true); decide)
        | 14, ho => exact absurd hG (by show ¬ (false = true); decide)
        | 15, ho =>
          cases ho
          intro V aa wx hV hdep hval hj hsm hr
          have e22 : aa.tmps.getD 22 undef = .bool true := hr 22 (by decide) (by apply Array.mem_toList_iff.1; repeat (first | exact List.Mem.head _ | apply List.Mem.tail))
          rw [Array.getD_eq_getD_getElem?] at e22
          unfold Oper.wp
          simp only [execOp, Act.eval, Array.getD_eq_getD_getElem?, e22]
          go_simp
          first | exact ⟨_, rfl, rfl, Below.refl _ _⟩ | exact ⟨_, rfl, rfl, Below.refl _ _, hj⟩ | exact ⟨_, rfl, Below.refl _ _, hj⟩ | exact ⟨_, rfl, hj⟩
        | _ + 16, ho => cases ho
      case fin =>
        intro ff V w5 hV hj hr
        have e27 : ff 27 = .bool true := hr 27 (by decide)
        have HB5 := hide (HB4.out.1.trans (hj.mono HB4.out.2))
        clear hV hr
        simp only [putAll, slotsOf, List.filterMap_cons, List.filterMap_nil, List.foldl_cons, List.foldl_nil, Act.put, e27]
        simp only [List.setIfInBounds_toArray, List.set_cons_succ, List.set_cons_zero]
        go_wp2_with fail
        exact bodyPost_ret (v := .tuple #[.string ⟨#[]⟩, .int .i64 160]) (by simp [results, Tryd.results7, go_sem]) rfl ⟨no_text NT.out, by rw [HX.out]; exact HB5.out⟩
    | true =>
      have HTR : Hid (c = trimC c) := hide (of_decide_eq_true HBS.out)
      go_wp2_with fail
      let R : Nat → Value → World → Prop := fun sl u w1 => match sl with
        | 12 => u = .slice (some ⟨g, 0, none⟩) n n
        | 13 => u = .int .i64 n
        | 14 => u = .bool false
        | 15 => u = .bool false
        | 16 => u = .agg #[.int .u8 c.k, .int .i64 c.co, .int .i64 c.pe, .int .i64 c.tg, .int .i64 c.va, .int .i64 c.sz, .int .i64 c.ro, .int .u8 c.op, .slice ra c.rq.length rc, .int .i64 c.cl, .int .i64 c.ky]
        | 17 => u = .agg #[.int .u8 c.k, .int .i64 c.co, .int .i64 c.pe, .int .i64 c.tg, .int .i64 c.va, .int .i64 c.sz, .int .i64 c.ro, .int .u8 c.op, .slice ra c.rq.length rc, .int .i64 c.cl, .int .i64 c.ky]
        | 18 => ∃ rb rd, u = .agg ((trimC c).A rb rd) ∧ NRow w1 rb (trimC c).rq
        | 19 => u = .bool true
        | 20 => u = .bool false
        | 21 => u = .bool false
        | 22 => u = .bool false
        | 23 => u = .pointer (some ⟨X, 7, none⟩)
        | 24 => u = .int .u8 c.op
        | 25 => u = .int .i64 c.op
        | 26 => u = .bool b3
        | 27 => u = .bool b3
        | _ => True
      refine wp_region_relGW [(15, false), (22, false)] R (fun a b => Below a.heap.size a b) (fun _ w => Below w4.heap.size w4 w) (by kernel_rfl) (by kernel_rfl) (by kernel_rfl) (by kernel_rfl) ?mono (fun w => Below.refl _ _) ((Below.refl _ _).drew) ?gs ?step ?fin
      case mono =>
        intro sl u wx wy h hk
        match sl with
        | 18 =>
          obtain ⟨rb, rd, h1, h2⟩ := h
          exact ⟨rb, rd, h1, h2.below hk⟩
        | 0 | 1 | 2 | 3 | 4 | 5 | 6 | 7 | 8 | 9 | 10 | 11 | 12 | 13 | 14 | 15 | 16 | 17 | 19 | 20 | 21 | 22 | 23 | 24 | 25 | 26 | 27 | _ + 28 => exact h
      case gs =>
        intro p hp u w1 h
        simp only [List.mem_cons, List.not_mem_nil, or_false] at hp
        rcases hp with rfl | rfl <;> exact h
      case step =>
        intro j o ho
        match j, ho with
        | 0, ho =>
          cases ho
          intro V aa wx hV hdep hval hj hsm hr
          have e4 : aa.tmps.getD 4 undef = .slice (some ⟨g, 0, none⟩) n n := hsm 4 (by decide)
          rw [Array.getD_eq_getD_getElem?] at e4
          unfold Oper.wp
          simp only [execOp, Act.eval, Array.getD_eq_getD_getElem?, e4]
          go_simp
          first | exact ⟨_, rfl, rfl, Below.refl _ _⟩ | exact ⟨_, rfl, rfl, Below.refl _ _, hj⟩ | exact ⟨_, rfl, Below.refl _ _, hj⟩ | exact ⟨_, rfl, hj⟩
        | 1, ho =>
          cases ho
          intro V aa wx hV hdep hval hj hsm hr
          have e12 : aa.tmps.getD 12 undef = .slice (some ⟨g, 0, none⟩) n n := hr 12 (by decide) (by apply Array.mem_toList_iff.1; repeat (first | exact List.Mem.head _ | apply List.Mem.tail))
          rw [Array.getD_eq_getD_getElem?] at e12
          unfold Oper.wp
          simp only [execOp, Act.eval, Array.getD_eq_getD_getElem?, e12]
          go_simp
          first | exact ⟨_, rfl, rfl, Below.refl _ _⟩ | exact ⟨_, rfl, rfl, Below.refl _ _, hj⟩ | exact ⟨_, rfl, Below.refl _ _, hj⟩ | exact ⟨_, rfl, hj⟩
        | 2, ho =>
          cases ho
          intro V aa wx hV hdep hval hj hsm hr
          have e13 : aa.tmps.getD 13 undef = .int .i64 n := hr 13 (by decide) (by apply Array.mem_toList_iff.1; repeat (first | exact List.Mem.head _ | apply List.Mem.tail))
          rw [Array.getD_eq_getD_getElem?] at e13
          unfold Oper.wp
          simp only [execOp, Act.eval, Array.getD_eq_getD_getElem?, e13]
          go_simp
          first | exact ⟨_, rfl, rfl, Below.refl _ _⟩ | exact ⟨_, rfl, rfl, Below.refl _ _, hj⟩ | exact ⟨_, rfl, Below.refl _ _, hj⟩ | exact ⟨_, rfl, hj⟩
        | 3, ho =>
          cases ho
          intro V aa wx hV hdep hval hj hsm hr
          have e14 : aa.tmps.getD 14 undef = .bool false := hr 14 (by decide) (by apply Array.mem_toList_iff.1; repeat (first | exact List.Mem.head _ | apply List.Mem.tail))
          rw [Array.getD_eq_getD_getElem?] at e14
          unfold Oper.wp
          simp only [execOp, Act.eval, Array.getD_eq_getD_getElem?, e14]
          go_simp
          first | exact ⟨_, rfl, rfl, Below.refl _ _⟩ | exact ⟨_, rfl, rfl, Below.refl _ _, hj⟩ | exact ⟨_, rfl, Below.refl _ _, hj⟩ | exact ⟨_, rfl, hj⟩
        | 4, ho =>
          cases ho
          intro V aa wx hV hdep hval hj hsm hr
          have e1 : aa.tmps.getD 1 undef = .pointer (some ⟨X, 0, none⟩) := hsm 1 (by decide)
          have hkb := K4.out.below hj K4.out.lt
          have cc0 : wx.cell? ⟨X, 0, none⟩ = some (.int .u8 c.k) := hkb.cell 0
          have cc1 : wx.cell? ⟨X, 1, none⟩ = some (.int .i64 c.co) := hkb.cell 1
          have cc2 : wx.cell? ⟨X, 2, none⟩ = some (.int .i64 c.pe) := hkb.cell 2
          have cc3 : wx.cell? ⟨X, 3, none⟩ = some (.int .i64 c.tg) := hkb.cell 3
          have cc4 : wx.cell? ⟨X, 4, none⟩ = some (.int .i64 c.va) := hkb.cell 4
          have cc5 : wx.cell? ⟨X, 5, none⟩ = some (.int .i64 c.sz) := hkb.cell 5
          have cc6 : wx.cell? ⟨X, 6, none⟩ = some (.int .i64 c.ro) := hkb.cell 6
          have cc7 : wx.cell? ⟨X, 7, none⟩ = some (.int .u8 c.op) := hkb.cell 7
          have cc8 : wx.cell? ⟨X, 8, none⟩ = some (.slice ra c.rq.length rc) := hkb.cell 8
          have cc9 : wx.cell? ⟨X, 9, none⟩ = some (.int .i64 c.cl) := hkb.cell 9
          have cc10 : wx.cell? ⟨X, 10, none⟩ = some (.int .i64 c.ky) := hkb.cell 10
          rw [Array.getD_eq_getD_getElem?] at e1
          unfold Oper.wp
          simp only [execOp, Act.eval, Array.getD_eq_getD_getElem?, e1]
          go_simp
          first | exact ⟨_, rfl, rfl, Below.refl _ _⟩ | exact ⟨_, rfl, rfl, Below.refl _ _, hj⟩ | exact ⟨_, rfl, Below.refl _ _, hj⟩ | exact ⟨_, rfl, hj⟩
        | 5, ho =>
          cases ho
          intro V aa wx hV hdep hval hj hsm hr
          have e1 : aa.tmps.getD 1 undef = .pointer (some ⟨X, 0, none⟩) := hsm 1 (by decide)
          have hkb := K4.out.below hj K4.out.lt
          have cc0 : wx.cell? ⟨X, 0, none⟩ = some (.int .u8 c.k) := hkb.cell 0
          have cc1 : wx.cell? ⟨X, 1, none⟩ = some (.int .i64 c.co) := hkb.cell 1
          have cc2 : wx.cell? ⟨X, 2, none⟩ = some (.int .i64 c.pe) := hkb.cell 2
          have cc3 : wx.cell? ⟨X, 3, none⟩ = some (.int .i64 c.tg) := hkb.cell 3
          have cc4 : wx.cell? ⟨X, 4, none⟩ = some (.int .i64 c.va) := hkb.cell 4
          have cc5 : wx.cell? ⟨X, 5, none⟩ = some (.int .i64 c.sz) := hkb.cell 5
          have cc6 : wx.cell? ⟨X, 6, none⟩ = some (.int .i64 c.ro) := hkb.cell 6
          have cc7 : wx.cell? ⟨X, 7, none⟩ = some (.int .u8 c.op) := hkb.cell 7
          have cc8 : wx.cell? ⟨X, 8, none⟩ = some (.slice ra c.rq.length rc) := hkb.cell 8
          have cc9 : wx.cell? ⟨X, 9, none⟩ = some (.int .i64 c.cl) := hkb.cell 9
          have cc10 : wx.cell? ⟨X, 10, none⟩ = some (.int .i64 c.ky) := hkb.cell 10
          rw [Array.getD_eq_getD_getElem?] at e1
          unfold Oper.wp
          simp only [execOp, Act.eval, Array.getD_eq_getD_getElem?, e1]
          go_simp
          first | exact ⟨_, rfl, rfl, Below.refl _ _⟩ | exact ⟨_, rfl, rfl, Below.refl _ _, hj⟩ | exact ⟨_, rfl, Below.refl _ _, hj⟩ | exact ⟨_, rfl, hj⟩
        | 6, ho =>
          cases ho
          intro V aa wx hV hdep hval hj hsm hr
          have e17 : aa.tmps.getD 17 undef = .agg #[.int .u8 c.k, .int .i64 c.co, .int .i64 c.pe, .int .i64 c.tg, .int .i64 c.va, .int .i64 c.sz, .int .i64 c.ro, .int .u8 c.op, .slice ra c.rq.length rc, .int .i64 c.cl, .int .i64 c.ky] := hr 17 (by decide) (by apply Array.mem_toList_iff.1; repeat (first | exact List.Mem.head _ | apply List.Mem.tail))
          rw [Array.getD_eq_getD_getElem?] at e17
          unfold Oper.wp
          simp only [execOp, Act.eval, Array.getD_eq_getD_getElem?, e17]
          go_simp
          refine (Trim_a c ra rc wx (HR4.out.below hj) HL5.out HO.out.op).mono ?_
          rintro e w' ⟨rb, rd, rfl, hown, hb⟩
          exact ⟨_, rfl, ⟨rb, rd, rfl, own_row hown rfl⟩, hb, hj.trans (hb.mono hj.size)⟩
        | 7, ho =>
          cases ho
          intro V aa wx hV hdep hval hj hsm hr
          have e16 : aa.tmps.getD 16 undef = .agg #[.int .u8 c.k, .int .i64 c.co, .int .i64 c.pe, .int .i64 c.tg, .int .i64 c.va, .int .i64 c.sz, .int .i64 c.ro, .int .u8 c.op, .slice ra c.rq.length rc, .int .i64 c.cl, .int .i64 c.ky] := hr 16 (by decide) (by apply Array.mem_toList_iff.1; repeat (first | exact List.Mem.head _ | apply List.Mem.tail))
          have r18 := hr 18 (by decide) (by apply Array.mem_toList_iff.1; repeat (first | exact List.Mem.head _ | apply List.Mem.tail))
          obtain ⟨rb, rd, e18, hn18⟩ := r18
          have e18 : aa.tmps.getD 18 undef = .agg ((trimC c).A rb rd) := e18
          rw [Array.getD_eq_getD_getElem?] at e16
          rw [Array.getD_eq_getD_getElem?] at e18
          unfold Oper.wp
          simp only [execOp, Act.eval, Array.getD_eq_getD_getElem?, e16, e18]
          go_simp
          refine (Same_a c (trimC c) ra rb rc rd wx (HR4.out.below hj) hn18 HL5.out HTRL.out).mono ?_
          rintro e w' ⟨rfl, hb⟩
          exact ⟨_, rfl, by show Value.bool (decide (c = trimC c)) = .bool _; rw [HBS.out], hb, hj.trans (hb.mono hj.size)⟩
        | 8, ho =>
          cases ho
          intro V aa wx hV hdep hval hj hsm hr
          have e19 : aa.tmps.getD 19 undef = .bool true := hr 19 (by decide) (by apply Array.mem_toList_iff.1; repeat (first | exact List.Mem.head _ | apply List.Mem.tail))
          rw [Array.getD_eq_getD_getElem?] at e19
          unfold Oper.wp
          simp only [execOp, Act.eval, Array.getD_eq_getD_getElem?, e19]
          go_simp
          first | exact ⟨_, rfl, rfl, Below.refl _ _⟩ | exact ⟨_, rfl, rfl, Below.refl _ _, hj⟩ | exact ⟨_, rfl, Below.refl _ _, hj⟩ | exact ⟨_, rfl, hj⟩
        | 9, ho =>
          cases ho
          intro V aa wx hV hdep hval hj hsm hr
          have e15 : aa.tmps.getD 15 undef = .bool false := hr 15 (by decide) (by apply Array.mem_toList_iff.1; repeat (first | exact List.Mem.head _ | apply List.Mem.tail))
          have e20 : aa.tmps.getD 20 undef = .bool false := hr 20 (by decide) (by apply Array.mem_toList_iff.1; repeat (first | exact List.Mem.head _ | apply List.Mem.tail))
          rw [Array.getD_eq_getD_getElem?] at e15
          rw [Array.getD_eq_getD_getElem?] at e20
          unfold Oper.wp
          simp only [execOp, Act.eval, Array.getD_eq_getD_getElem?, e15, e20]
          go_simp
          first | exact ⟨_, rfl, rfl, Below.refl _ _⟩ | exact ⟨_, rfl, rfl, Below.refl _ _, hj⟩ | exact ⟨_, rfl, Below.refl _ _, hj⟩ | exact ⟨_, rfl, hj⟩
        | 10, ho =>
          cases ho
          intro V aa wx hV hdep hval hj hsm hr
          have e21 : aa.tmps.getD 21 undef = .bool false := hr 21 (by decide) (by apply Array.mem_toList_iff.1; repeat (first | exact List.Mem.head _ | apply List.Mem.tail))
          rw [Array.getD_eq_getD_getElem?] at e21
          unfold Oper.wp
          simp only [execOp, Act.eval, Array.getD_eq_getD_getElem?, e21]
          go_simp
          first | exact ⟨_, rfl, rfl, Below.refl _ _⟩ | exact ⟨_, rfl, rfl, Below.refl _ _, hj⟩ | exact ⟨_, rfl, Below.refl _ _, hj⟩ | exact ⟨_, rfl, hj⟩
        | 11, ho =>
          cases ho
          intro V aa wx hV hdep hval hj hsm hr
          have e1 : aa.tmps.getD 1 undef = .pointer (some ⟨X, 0, none⟩) := hsm 1 (by decide)
          rw [Array.getD_eq_getD_getElem?] at e1
          unfold Oper.wp
          simp only [execOp, Act.eval, Array.getD_eq_getD_getElem?, e1]
          go_simp
          first | exact ⟨_, rfl, rfl, Below.refl _ _⟩ | exact ⟨_, rfl, rfl, Below.refl _ _, hj⟩ | exact ⟨_, rfl, Below.refl _ _, hj⟩ | exact ⟨_, rfl, hj⟩
        | 12, ho =>
          cases ho
          intro V aa wx hV hdep hval hj hsm hr
          have e23 : aa.tmps.getD 23 undef = .pointer (some ⟨X, 7, none⟩) := hr 23 (by decide) (by apply Array.mem_toList_iff.1; repeat (first | exact List.Mem.head _ | apply List.Mem.tail))
          have hkb := K4.out.below hj K4.out.lt
          have cc0 : wx.cell? ⟨X, 0, none⟩ = some (.int .u8 c.k) := hkb.cell 0
          have cc1 : wx.cell? ⟨X, 1, none⟩ = some (.int .i64 c.co) := hkb.cell 1
          have cc2 : wx.cell? ⟨X, 2, none⟩ = some (.int .i64 c.pe) := hkb.cell 2
          have cc3 : wx.cell? ⟨X, 3, none⟩ = some (.int .i64 c.tg) := hkb.cell 3
          have cc4 : wx.cell? ⟨X, 4, none⟩ = some (.int .i64 c.va) := hkb.cell 4
          have cc5 : wx.cell? ⟨X, 5, none⟩ = some (.int .i64 c.sz) := hkb.cell 5
          have cc6 : wx.cell? ⟨X, 6, none⟩ = some (.int .i64 c.ro) := hkb.cell 6
          have cc7 : wx.cell? ⟨X, 7, none⟩ = some (.int .u8 c.op) := hkb.cell 7
          have cc8 : wx.cell? ⟨X, 8, none⟩ = some (.slice ra c.rq.length rc) := hkb.cell 8
          have cc9 : wx.cell? ⟨X, 9, none⟩ = some (.int .i64 c.cl) := hkb.cell 9
          have cc10 : wx.cell? ⟨X, 10, none⟩ = some (.int .i64 c.ky) := hkb.cell 10
          rw [Array.getD_eq_getD_getElem?] at e23
          unfold Oper.wp
          simp only [execOp, Act.eval, Array.getD_eq_getD_getElem?, e23]
          go_simp
          first | exact ⟨_, rfl, rfl, Below.refl _ _⟩ | exact ⟨_, rfl, rfl, Below.refl _ _, hj⟩ | exact ⟨_, rfl, Below.refl _ _, hj⟩ | exact ⟨_, rfl, hj⟩
        | 13, ho =>
          cases ho
          intro V aa wx hV hdep hval hj hsm hr
          have e24 : aa.tmps.getD 24 undef = .int .u8 c.op := hr 24 (by decide) (by apply Array.mem_toList_iff.1; repeat (first | exact List.Mem.head _ | apply List.Mem.tail))
          rw [Array.getD_eq_getD_getElem?] at e24
          unfold Oper.wp
          simp only [execOp, Act.eval, Array.getD_eq_getD_getElem?, e24]
          go_simp
          first | exact ⟨_, rfl, rfl, Below.refl _ _⟩ | exact ⟨_, rfl, rfl, Below.refl _ _, hj⟩ | exact ⟨_, rfl, Below.refl _ _, hj⟩ | exact ⟨_, rfl, hj⟩
        | 14, ho =>
          cases ho
          intro V aa wx hV hdep hval hj hsm hr
          have e25 : aa.tmps.getD 25 undef = .int .i64 c.op := hr 25 (by decide) (by apply Array.mem_toList_iff.1; repeat (first | exact List.Mem.head _ | apply List.Mem.tail))
          rw [Array.getD_eq_getD_getElem?] at e25
          unfold Oper.wp
          simp only [execOp, Act.eval, Array.getD_eq_getD_getElem?, e25]
          go_simp
          have E3 : Value.bool (decide ((3 : Int) ≤ c.op)) = .bool b3 := by rw [HB3.out]
          first | exact ⟨_, rfl, E3, Below.refl _ _⟩ | exact ⟨_, rfl, E3, Below.refl _ _, hj⟩
        | 15, ho =>
          cases ho
          intro V aa wx hV hdep hval hj hsm hr
          have e22 : aa.tmps.getD 22 undef = .bool false := hr 22 (by decide) (by apply Array.mem_toList_iff.1; repeat (first | exact List.Mem.head _ | apply List.Mem.tail))
          have e26 : aa.tmps.getD 26 undef = .bool b3 := hr 26 (by decide) (by apply Array.mem_toList_iff.1; repeat (first | exact List.Mem.head _ | apply List.Mem.tail))
          rw [Array.getD_eq_getD_getElem?] at e22
          rw [Array.getD_eq_getD_getElem?] at e26
          unfold Oper.wp
          simp only [execOp, Act.eval, Array.getD_eq_getD_getElem?, e22, e26]
          go_simp
          first | exact ⟨_, rfl, rfl, Below.refl _ _⟩ | exact ⟨_, rfl, rfl, Below.refl _ _, hj⟩ | exact ⟨_, rfl, Below.refl _ _, hj⟩ | exact ⟨_, rfl, hj⟩
        | _ + 16, ho => cases ho
      case fin =>
        intro ff V w5 hV hj hr
        have e27 : ff 27 = .bool b3 := hr 27 (by decide)
        have HB5 := hide (HB4.out.1.trans (hj.mono HB4.out.2))
        clear hV hr
        simp only [putAll, slotsOf, List.filterMap_cons, List.filterMap_nil, List.foldl_cons, List.foldl_nil, Act.put, e27]
        simp only [List.setIfInBounds_toArray, List.set_cons_succ, List.set_cons_zero]
        have K5 := hide (K4.out.below hj K4.out.lt)
        have HR5 := hide (HR4.out.below hj)
        have HP5 := hide (HP4.out.below hj (Nat.le_refl _))
        have HD5 := hide (HD4.out.below hj (Nat.le_refl _))
        have HG5 := hide (HG.out.below hj HG.out.lt)
        have HX5 : Hid (X ≤ w5.heap.size) := hide (Nat.le_trans HB4.out.2 hj.size)
        clear hj
        cases b3 with
        | true =>
          have NT : Hid (¬ hasText c) := hide (fun h => by have := of_decide_eq_true HB3.out; have := h.2.2.1; omega)
          go_wp2_with fail
          exact bodyPost_ret (v := .tuple #[.string ⟨#[]⟩, .int .i64 160]) (by simp [results, Tryd.results7, go_sem]) rfl ⟨no_text NT.out, by rw [HX.out]; exact HB5.out⟩
        | false =>
          have HOP : Hid (c.op ≤ 2) := hide (by have := of_decide_eq_false HB3.out; omega)
          obtain ⟨f0, hf0⟩ : ∃ z, (usedL c.k).getD 0 0 = z := ⟨_, rfl⟩
          have c0 : w5.cell? ⟨g, 0, none⟩ = some (.int .i64 f0) := by rw [← hf0]; exact blk_i64 HG5.out HLT.out
          have hnI : (0 : Int) < (n : Int) := by have := HLT.out; have := HNN.out; omega
          have HF0 := hide hf0
          clear hf0
          by_cases h7 : f0 = 7
          · have h7b : (f0 == 7) = true := by simpa using h7
            have S7 := hide (first_seven (HF0.out.trans h7))
            have AM := hide (asMany_c c S7.out.2 ra rc w5)
            obtain ⟨bm, hbm⟩ : ∃ b, decide (manyR c) = b := ⟨_, rfl⟩
            rw [hbm] at AM
            have HBM := hide hbm
            have q0 : w5.cell? ⟨X, 0, none⟩ = some (.int .u8 c.k) := K5.out.cell 0
            have q1 : w5.cell? ⟨X, 1, none⟩ = some (.int .i64 c.co) := K5.out.cell 1
            have q2 : w5.cell? ⟨X, 2, none⟩ = some (.int .i64 c.pe) := K5.out.cell 2
            have q3 : w5.cell? ⟨X, 3, none⟩ = some (.int .i64 c.tg) := K5.out.cell 3
            have q4 : w5.cell? ⟨X, 4, none⟩ = some (.int .i64 c.va) := K5.out.cell 4
            have q5 : w5.cell? ⟨X, 5, none⟩ = some (.int .i64 c.sz) := K5.out.cell 5
            have q6 : w5.cell? ⟨X, 6, none⟩ = some (.int .i64 c.ro) := K5.out.cell 6
            have q7 : w5.cell? ⟨X, 7, none⟩ = some (.int .u8 c.op) := K5.out.cell 7
            have q8 : w5.cell? ⟨X, 8, none⟩ = some (.slice ra c.rq.length rc) := K5.out.cell 8
            have q9 : w5.cell? ⟨X, 9, none⟩ = some (.int .i64 c.cl) := K5.out.cell 9
            have q10 : w5.cell? ⟨X, 10, none⟩ = some (.int .i64 c.ky) := K5.out.cell 10
            clear h7 hbm
            go_wp2_with fail
            refine AM.out.mono ?_
            rintro e w6 ⟨rfl, hb6⟩
            have HB6 := hide (And.intro (HB5.out.trans (hb6.mono HX5.out)) (Nat.le_trans HX5.out hb6.size))
            have K6 := hide (K5.out.below hb6 K5.out.lt)
            have HR6 := hide (HR5.out.below hb6)
            have HP6 := hide (HP5.out.below hb6 (Nat.le_refl _))
            clear hb6 AM q0 q1 q2 q3 q4 q5 q6 q7 q8 q9 q10
            cases bm with
            | false =>
              have NT : Hid (¬ hasText c) := hide (fun h => (of_decide_eq_false HBM.out) (h.2.2.2 S7.out.1))
              go_wp2_with fail
              exact bodyPost_ret (v := .tuple #[.string ⟨#[]⟩, .int .i64 160]) (by simp [results, Tryd.results7, go_sem]) rfl ⟨no_text NT.out, by rw [HX.out]; exact HB6.out.1⟩
            | true =>
              have TXT : Hid (hasText c) := hide ⟨HNE.out, HTR.out, HOP.out, fun _ => of_decide_eq_true HBM.out⟩
              have EQT : Hid (bytes (wordL c.k) ++ ⟨#[40]⟩ ++ bytes (jnC c.rq) ++ ⟨#[41]⟩ = bytes (textOf c)) := hide (by
                rw [show (⟨#[40]⟩ : ByteArray) = bytes [40] from rfl, show (⟨#[41]⟩ : ByteArray) = bytes [41] from rfl, bytes_app, bytes_app, bytes_app]
                unfold textOf argT
                rw [if_pos S7.out.1])
              have KK := hide (used_kind HNE.out)
              have z1 : (bytes (wordL c.k)).size ≤ 10 := by rw [bytes_size]; exact word_len _
              have z2 : (bytes (jnC c.rq)).size ≤ 23000 := by rw [bytes_size]; have := Told.jnC_len (l := c.rq) HO.out.rq; have := HL.out; omega
              have WD := hide (fun w' => word_c c.k KK.out w')
              have RW := hide (fun w' (h : NRow w' ra c.rq) (h' : Pow w') => Told.rowInt_a ra rc c.rq w' h HL.out HO.out.rq h')
              obtain ⟨SA, hSA⟩ : ∃ s, bytes (wordL c.k) = s := ⟨_, rfl⟩
              obtain ⟨SB, hSB⟩ : ∃ s, bytes (jnC c.rq) = s := ⟨_, rfl⟩
              rw [hSA] at EQT z1 WD
              rw [hSB] at EQT z2 RW
              clear hSA hSB
              go_wp2_with fail
              let R : Nat → Value → World → Prop := fun sl u w1 => match sl with
                | 2 => u = .string (SA ++ ⟨#[40]⟩ ++ SB ++ ⟨#[41]⟩)
                | 3 => u = .int .i64 0
                | 35 => u = .pointer (some ⟨X, 0, none⟩)
                | 36 => u = .int .u8 c.k
                | 37 => u = .string SA
                | 38 => u = .string (SA ++ ⟨#[40]⟩)
                | 39 => u = .pointer (some ⟨X, 8, none⟩)
                | 40 => u = .slice ra c.rq.length rc
                | 41 => u = .string SB
                | 42 => u = .string (SA ++ ⟨#[40]⟩ ++ SB)
                | 43 => u = .string (SA ++ ⟨#[40]⟩ ++ SB ++ ⟨#[41]⟩)
                | _ => True
              refine wp_region_relGW [] R (fun a b => Below a.heap.size a b) (fun _ w => Below w6.heap.size w6 w) (by kernel_rfl) (by kernel_rfl) (by kernel_rfl) (by kernel_rfl) ?mono (fun w => Below.refl _ _) ((Below.refl _ _).drew) ?gs ?step ?fin
              case mono =>
                intro sl u wx wy h hk
                match sl with
                | 0 | 1 | 2 | 3 | 4 | 5 | 6 | 7 | 8 | 9 | 10 | 11 | 12 | 13 | 14 | 15 | 16 | 17 | 18 | 19 | 20 | 21 | 22 | 23 | 24 | 25 | 26 | 27 | 28 | 29 | 30 | 31 | 32 | 33 | 34 | 35 | 36 | 37 | 38 | 39 | 40 | 41 | 42 | 43 | _ + 44 => exact h
              case gs =>
                intro p hp u w1 h
                cases hp
              case step =>
                intro j o ho
                match j, ho with
                | 0, ho =>
                  cases ho
                  intro V aa wx hV hdep hval hj hsm hr
                  have e1 : aa.tmps.getD 1 undef = .pointer (some ⟨X, 0, none⟩) := hsm 1 (by decide)
                  rw [Array.getD_eq_getD_getElem?] at e1
                  unfold Oper.wp
                  simp only [execOp, Act.eval, Array.getD_eq_getD_getElem?, e1]
                  go_simp
                  first | exact ⟨_, rfl, rfl, Below.refl _ _⟩ | exact ⟨_, rfl, rfl, Below.refl _ _, hj⟩ | exact ⟨_, rfl, Below.refl _ _, hj⟩ | exact ⟨_, rfl, hj⟩
                | 1, ho =>
                  cases ho
                  intro V aa wx hV hdep hval hj hsm hr
                  have e35 : aa.tmps.getD 35 undef = .pointer (some ⟨X, 0, none⟩) := hr 35 (by decide) (by apply Array.mem_toList_iff.1; repeat (first | exact List.Mem.head _ | apply List.Mem.tail))
                  have hkb := K6.out.below hj K6.out.lt
                  have cc0 : wx.cell? ⟨X, 0, none⟩ = some (.int .u8 c.k) := hkb.cell 0
                  have cc1 : wx.cell? ⟨X, 1, none⟩ = some (.int .i64 c.co) := hkb.cell 1
                  have cc2 : wx.cell? ⟨X, 2, none⟩ = some (.int .i64 c.pe) := hkb.cell 2
                  have cc3 : wx.cell? ⟨X, 3, none⟩ = some (.int .i64 c.tg) := hkb.cell 3
                  have cc4 : wx.cell? ⟨X, 4, none⟩ = some (.int .i64 c.va) := hkb.cell 4
                  have cc5 : wx.cell? ⟨X, 5, none⟩ = some (.int .i64 c.sz) := hkb.cell 5
                  have cc6 : wx.cell? ⟨X, 6, none⟩ = some (.int .i64 c.ro) := hkb.cell 6
                  have cc7 : wx.cell? ⟨X, 7, none⟩ = some (.int .u8 c.op) := hkb.cell 7
                  have cc8 : wx.cell? ⟨X, 8, none⟩ = some (.slice ra c.rq.length rc) := hkb.cell 8
                  have cc9 : wx.cell? ⟨X, 9, none⟩ = some (.int .i64 c.cl) := hkb.cell 9
                  have cc10 : wx.cell? ⟨X, 10, none⟩ = some (.int .i64 c.ky) := hkb.cell 10
                  rw [Array.getD_eq_getD_getElem?] at e35
                  unfold Oper.wp
                  simp only [execOp, Act.eval, Array.getD_eq_getD_getElem?, e35]
                  go_simp
                  first | exact ⟨_, rfl, rfl, Below.refl _ _⟩ | exact ⟨_, rfl, rfl, Below.refl _ _, hj⟩ | exact ⟨_, rfl, Below.refl _ _, hj⟩ | exact ⟨_, rfl, hj⟩
                | 2, ho =>
                  cases ho
                  intro V aa wx hV hdep hval hj hsm hr
                  have e36 : aa.tmps.getD 36 undef = .int .u8 c.k := hr 36 (by decide) (by apply Array.mem_toList_iff.1; repeat (first | exact List.Mem.head _ | apply List.Mem.tail))
                  rw [Array.getD_eq_getD_getElem?] at e36
                  unfold Oper.wp
                  simp only [execOp, Act.eval, Array.getD_eq_getD_getElem?, e36]
                  go_simp
                  refine (WD.out wx).mono ?_
                  rintro e w' ⟨rfl, rfl⟩
                  exact ⟨_, rfl, rfl, Below.refl _ _, hj⟩
                | 3, ho =>
                  cases ho
                  intro V aa wx hV hdep hval hj hsm hr
                  have e37 : aa.tmps.getD 37 undef = .string SA := hr 37 (by decide) (by apply Array.mem_toList_iff.1; repeat (first | exact List.Mem.head _ | apply List.Mem.tail))
                  have m0 : (⟨#[40]⟩ : ByteArray).size = 1 := rfl
                  have m1 : (⟨#[41]⟩ : ByteArray).size = 1 := rfl
                  have m2 : ¬ 9223372036854775807 < SA.size + 1 := by omega
                  have m3 : ¬ 9223372036854775807 < SA.size + 1 + SB.size := by omega
                  have m4 : ¬ 9223372036854775807 < SA.size + 1 + SB.size + 1 := by omega
                  rw [Array.getD_eq_getD_getElem?] at e37
                  unfold Oper.wp
                  simp only [execOp, Act.eval, Array.getD_eq_getD_getElem?, e37]
                  go_simp
                  first | exact ⟨_, rfl, rfl, Below.refl _ _⟩ | exact ⟨_, rfl, rfl, Below.refl _ _, hj⟩ | exact ⟨_, rfl, Below.refl _ _, hj⟩ | exact ⟨_, rfl, hj⟩
                | 4, ho =>
                  cases ho
                  intro V aa wx hV hdep hval hj hsm hr
                  have e1 : aa.tmps.getD 1 undef = .pointer (some ⟨X, 0, none⟩) := hsm 1 (by decide)
                  rw [Array.getD_eq_getD_getElem?] at e1
                  unfold Oper.wp
                  simp only [execOp, Act.eval, Array.getD_eq_getD_getElem?, e1]
                  go_simp
                  first | exact ⟨_, rfl, rfl, Below.refl _ _⟩ | exact ⟨_, rfl, rfl, Below.refl _ _, hj⟩ | exact ⟨_, rfl, Below.refl _ _, hj⟩ | exact ⟨_, rfl, hj⟩
                | 5, ho =>
                  cases ho
                  intro V aa wx hV hdep hval hj hsm hr
                  have e39 : aa.tmps.getD 39 undef = .pointer (some ⟨X, 8, none⟩) := hr 39 (by decide) (by apply Array.mem_toList_iff.1; repeat (first | exact List.Mem.head _ | apply List.Mem.tail))
                  have hkb := K6.out.below hj K6.out.lt
                  have cc0 : wx.cell? ⟨X, 0, none⟩ = some (.int .u8 c.k) := hkb.cell 0
                  have cc1 : wx.cell? ⟨X, 1, none⟩ = some (.int .i64 c.co) := hkb.cell 1
                  have cc2 : wx.cell? ⟨X, 2, none⟩ = some (.int .i64 c.pe) := hkb.cell 2
                  have cc3 : wx.cell? ⟨X, 3, none⟩ = some (.int .i64 c.tg) := hkb.cell 3
                  have cc4 : wx.cell? ⟨X, 4, none⟩ = some (.int .i64 c.va) := hkb.cell 4
                  have cc5 : wx.cell? ⟨X, 5, none⟩ = some (.int .i64 c.sz) := hkb.cell 5
                  have cc6 : wx.cell? ⟨X, 6, none⟩ = some (.int .i64 c.ro) := hkb.cell 6
                  have cc7 : wx.cell? ⟨X, 7, none⟩ = some (.int .u8 c.op) := hkb.cell 7
                  have cc8 : wx.cell? ⟨X, 8, none⟩ = some (.slice ra c.rq.length rc) := hkb.cell 8
                  have cc9 : wx.cell? ⟨X, 9, none⟩ = some (.int .i64 c.cl) := hkb.cell 9
                  have cc10 : wx.cell? ⟨X, 10, none⟩ = some (.int .i64 c.ky) := hkb.cell 10
                  rw [Array.getD_eq_getD_getElem?] at e39
                  unfold Oper.wp
                  simp only [execOp, Act.eval, Array.getD_eq_getD_getElem?, e39]
                  go_simp
                  first | exact ⟨_, rfl, rfl, Below.refl _ _⟩ | exact ⟨_, rfl, rfl, Below.refl _ _, hj⟩ | exact ⟨_, rfl, Below.refl _ _, hj⟩ | exact ⟨_, rfl, hj⟩
                | 6, ho =>
                  cases ho
                  intro V aa wx hV hdep hval hj hsm hr
                  have e40 : aa.tmps.getD 40 undef = .slice ra c.rq.length rc := hr 40 (by decide) (by apply Array.mem_toList_iff.1; repeat (first | exact List.Mem.head _ | apply List.Mem.tail))
                  rw [Array.getD_eq_getD_getElem?] at e40
                  unfold Oper.wp
                  simp only [execOp, Act.eval, Array.getD_eq_getD_getElem?, e40]
                  go_simp
                  refine (RW.out wx (HR6.out.below hj) (HP6.out.below hj (Nat.le_refl _))).mono ?_
                  rintro e w' ⟨rfl, hb⟩
                  exact ⟨_, rfl, rfl, hb, hj.trans (hb.mono hj.size)⟩
                | 7, ho =>
                  cases ho
                  intro V aa wx hV hdep hval hj hsm hr
                  have e38 : aa.tmps.getD 38 undef = .string (SA ++ ⟨#[40]⟩) := hr 38 (by decide) (by apply Array.mem_toList_iff.1; repeat (first | exact List.Mem.head _ | apply List.Mem.tail))
                  have e41 : aa.tmps.getD 41 undef = .string SB := hr 41 (by decide) (by apply Array.mem_toList_iff.1; repeat (first | exact List.Mem.head _ | apply List.Mem.tail))
                  have m0 : (⟨#[40]⟩ : ByteArray).size = 1 := rfl
                  have m1 : (⟨#[41]⟩ : ByteArray).size = 1 := rfl
                  have m2 : ¬ 9223372036854775807 < SA.size + 1 := by omega
                  have m3 : ¬ 9223372036854775807 < SA.size + 1 + SB.size := by omega
                  have m4 : ¬ 9223372036854775807 < SA.size + 1 + SB.size + 1 := by omega
                  rw [Array.getD_eq_getD_getElem?] at e38
                  rw [Array.getD_eq_getD_getElem?] at e41
                  unfold Oper.wp
                  simp only [execOp, Act.eval, Array.getD_eq_getD_getElem?, e38, e41]
                  go_simp
                  first | exact ⟨_, rfl, rfl, Below.refl _ _⟩ | exact ⟨_, rfl, rfl, Below.refl _ _, hj⟩ | exact ⟨_, rfl, Below.refl _ _, hj⟩ | exact ⟨_, rfl, hj⟩
                | 8, ho =>
                  cases ho
                  intro V aa wx hV hdep hval hj hsm hr
                  have e42 : aa.tmps.getD 42 undef = .string (SA ++ ⟨#[40]⟩ ++ SB) := hr 42 (by decide) (by apply Array.mem_toList_iff.1; repeat (first | exact List.Mem.head _ | apply List.Mem.tail))
                  have m0 : (⟨#[40]⟩ : ByteArray).size = 1 := rfl
                  have m1 : (⟨#[41]⟩ : ByteArray).size = 1 := rfl
                  have m2 : ¬ 9223372036854775807 < SA.size + 1 := by omega
                  have m3 : ¬ 9223372036854775807 < SA.size + 1 + SB.size := by omega
                  have m4 : ¬ 9223372036854775807 < SA.size + 1 + SB.size + 1 := by omega
                  rw [Array.getD_eq_getD_getElem?] at e42
                  unfold Oper.wp
                  simp only [execOp, Act.eval, Array.getD_eq_getD_getElem?, e42]
                  go_simp
                  first | exact ⟨_, rfl, rfl, Below.refl _ _⟩ | exact ⟨_, rfl, rfl, Below.refl _ _, hj⟩ | exact ⟨_, rfl, Below.refl _ _, hj⟩ | exact ⟨_, rfl, hj⟩
                | 9, ho =>
                  cases ho
                  intro V aa wx hV hdep hval hj hsm hr
                  have e43 : aa.tmps.getD 43 undef = .string (SA ++ ⟨#[40]⟩ ++ SB ++ ⟨#[41]⟩) := hr 43 (by decide) (by apply Array.mem_toList_iff.1; repeat (first | exact List.Mem.head _ | apply List.Mem.tail))
                  rw [Array.getD_eq_getD_getElem?] at e43
                  unfold Oper.wp
                  simp only [execOp, Act.eval, Array.getD_eq_getD_getElem?, e43]
                  go_simp
                  first | exact ⟨_, rfl, rfl, Below.refl _ _⟩ | exact ⟨_, rfl, rfl, Below.refl _ _, hj⟩ | exact ⟨_, rfl, Below.refl _ _, hj⟩ | exact ⟨_, rfl, hj⟩
                | 10, ho =>
                  cases ho
                  intro V aa wx hV hdep hval hj hsm hr
                  unfold Oper.wp
                  simp only [execOp, Act.eval, Array.getD_eq_getD_getElem?]
                  go_simp
                  first | exact ⟨_, rfl, rfl, Below.refl _ _⟩ | exact ⟨_, rfl, rfl, Below.refl _ _, hj⟩ | exact ⟨_, rfl, Below.refl _ _, hj⟩ | exact ⟨_, rfl, hj⟩
                | _ + 11, ho => cases ho
              case fin =>
                intro ff V w7 hV hj hr
                have e2 : ff 2 = .string (SA ++ ⟨#[40]⟩ ++ SB ++ ⟨#[41]⟩) := hr 2 (by decide)
                have e3 : ff 3 = .int .i64 0 := hr 3 (by decide)
                have HB7 := hide (HB6.out.1.trans (hj.mono HB6.out.2))
                clear hV hr hj
                simp only [putAll, slotsOf, List.filterMap_cons, List.filterMap_nil, List.foldl_cons, List.foldl_nil, Act.put, e2, e3]
                simp only [List.setIfInBounds_toArray, List.set_cons_succ, List.set_cons_zero]
                rw [EQT.out]
                go_wp2_with fail
                exact bodyPost_ret (v := .tuple #[.string (bytes (textOf c)), .int .i64 0]) (by simp [results, Tryd.results7, go_sem]) rfl ⟨.inl ⟨TXT.out, rfl⟩, by rw [HX.out]; exact HB7.out⟩
          · have h7b : (f0 == 7) = false := by simpa using h7
            have S7 := hide (first_other HNE.out (fun e => h7 (HF0.out.symm.trans e)))
            have TXT : Hid (hasText c) := hide ⟨HNE.out, HTR.out, HOP.out, fun h => by rw [S7.out.1] at h; cases h⟩
            have KK := hide (used_kind HNE.out)
            clear h7
            go_wp2_with fail
            go_loopw [46, 5, 6] (fun vi v5 v6 wr => ∃ (k : Nat) (A1 : Option Addr) (cap : Nat), k ≤ n ∧ vi = .int .i64 k ∧ v5 = .slice A1 (numsAt c k).length cap ∧ v6 = .string (bytes (lastAt c k)) ∧ Hid (wr.ownsRow w5.heap.size 2 1 (.slice A1 (numsAt c k).length cap) (numsAt c k).length (i64s (numsAt c k))) ∧ Hid (Below w5.heap.size w5 wr)) (fun vi _ _ _ => n - (RowKit.intOf vi).toNat)
            case atStart => exact ⟨0, none, 0, Nat.zero_le _, rfl, rfl, rfl, hide ⟨rfl, .inl ⟨rfl, rfl⟩⟩, hide (Below.refl _ _)⟩
            case round =>
              obtain ⟨k, A1, cap, hk, rfl, rfl, rfl, HOW, HBR⟩ := hrel
              by_cases hlt : k < n
              rotate_left
              · have hltI : ¬ (k : Int) < (n : Int) := by omega
                obtain rfl : k = n := by omega
                have NA := numsAt_all c
                have LA := lastAt_all c
                rw [HNN.out] at NA LA
                have HBQ := hide (And.intro (HB5.out.trans (HBR.out.mono HX5.out)) (Nat.le_trans HX5.out HBR.out.size))
                have KQ := hide (K5.out.below HBR.out K5.out.lt)
                have HPQ := hide (HP5.out.below HBR.out (Nat.le_refl _))
                have HRW : Hid (NRow wr A1 (numsOf c)) := hide (by have := HOW.out; rw [NA] at this; exact own_row this rfl)
                have LN5 : (numsOf c).length ≤ 5 := by rw [← NA]; exact numsAt_len c _
                have LL5 : (lastT c).length ≤ 5 := by rw [← LA]; exact last_len c _
                have FN : Hid (∀ z ∈ numsOf c, Told.Fit z) := hide (by rw [← NA]; exact nums_fit HO.out _)
                rw [NA, LA]
                have EQT : Hid (bytes (wordL c.k) ++ ⟨#[40]⟩ ++ bytes (jnC (numsOf c)) ++ bytes (lastT c) ++ ⟨#[41]⟩ = bytes (textOf c)) := hide (by
                  rw [show (⟨#[40]⟩ : ByteArray) = bytes [40] from rfl, show (⟨#[41]⟩ : ByteArray) = bytes [41] from rfl, bytes_app, bytes_app, bytes_app, bytes_app]
                  unfold textOf argT
                  rw [if_neg (by rw [S7.out.1]; decide)]
                  simp)
                have z1 : (bytes (wordL c.k)).size ≤ 10 := by rw [bytes_size]; exact word_len _
                have z2 : (bytes (jnC (numsOf c))).size ≤ 200 := by rw [bytes_size]; have := Told.jnC_len FN.out; omega
                have z3 : (bytes (lastT c)).size ≤ 5 := by rw [bytes_size]; exact LL5
                have WD := hide (fun w' => word_c c.k KK.out w')
                have RW := hide (fun w' (h : NRow w' A1 (numsOf c)) (h' : Pow w') => Told.row64_a A1 cap (numsOf c) w' h (by omega) FN.out h')
                obtain ⟨SA, hSA⟩ : ∃ s, bytes (wordL c.k) = s := ⟨_, rfl⟩
                obtain ⟨SB, hSB⟩ : ∃ s, bytes (jnC (numsOf c)) = s := ⟨_, rfl⟩
                obtain ⟨SC, hSC⟩ : ∃ s, bytes (lastT c) = s := ⟨_, rfl⟩
                rw [hSA] at EQT z1 WD
                rw [hSB] at EQT z2 RW
                rw [hSC] at EQT z3 ⊢
                clear hSA hSB hSC NA LA HOW LL5
                have m0 : (⟨#[40]⟩ : ByteArray).size = 1 := rfl
                have m1 : (⟨#[41]⟩ : ByteArray).size = 1 := rfl
                have m2 : ¬ 9223372036854775807 < SA.size + 1 := by omega
                have m3 : ¬ 9223372036854775807 < SA.size + 1 + SB.size := by omega
                have m4 : ¬ 9223372036854775807 < SA.size + 1 + SB.size + SC.size := by omega
                have m5 : ¬ 9223372036854775807 < SA.size + 1 + SB.size + SC.size + 1 := by omega
                have q0 : wr.cell? ⟨X, 0, none⟩ = some (.int .u8 c.k) := KQ.out.cell 0
                have q1 : wr.cell? ⟨X, 1, none⟩ = some (.int .i64 c.co) := KQ.out.cell 1
                have q2 : wr.cell? ⟨X, 2, none⟩ = some (.int .i64 c.pe) := KQ.out.cell 2
                have q3 : wr.cell? ⟨X, 3, none⟩ = some (.int .i64 c.tg) := KQ.out.cell 3
                have q4 : wr.cell? ⟨X, 4, none⟩ = some (.int .i64 c.va) := KQ.out.cell 4
                have q5 : wr.cell? ⟨X, 5, none⟩ = some (.int .i64 c.sz) := KQ.out.cell 5
                have q6 : wr.cell? ⟨X, 6, none⟩ = some (.int .i64 c.ro) := KQ.out.cell 6
                have q7 : wr.cell? ⟨X, 7, none⟩ = some (.int .u8 c.op) := KQ.out.cell 7
                have q8 : wr.cell? ⟨X, 8, none⟩ = some (.slice ra c.rq.length rc) := KQ.out.cell 8
                have q9 : wr.cell? ⟨X, 9, none⟩ = some (.int .i64 c.cl) := KQ.out.cell 9
                have q10 : wr.cell? ⟨X, 10, none⟩ = some (.int .i64 c.ky) := KQ.out.cell 10
                go_wp2_with fail
                refine (WD.out wr).mono ?_
                rintro e w' ⟨rfl, rfl⟩
                go_wp2_with fail
                refine (RW.out w' HRW.out HPQ.out).mono ?_
                rintro e w7 ⟨rfl, hb7⟩
                have HB7 := hide (HBQ.out.1.trans (hb7.mono HBQ.out.2))
                clear hb7
                go_wp2_with fail
                rw [EQT.out]
                exact bodyPost_ret (v := .tuple #[.string (bytes (textOf c)), .int .i64 0]) (by simp [results, Tryd.results7, go_sem]) rfl ⟨.inl ⟨TXT.out, rfl⟩, by rw [HX.out]; exact HB7.out⟩
              · have hltI : (k : Int) < (n : Int) := by omega
                have hkl : k < (usedL c.k).length := by have := HNN.out; omega
                have hn5 : n ≤ 5 := by have := HU5.out; have := HNN.out; omega
                have HGR := HG5.out.below HBR.out HG5.out.lt
                have FM : Hid ((usedL c.k).getD k 0 ∈ usedL c.k) := hide (by rw [List.getD, List.getElem?_eq_getElem hkl]; exact List.getElem_mem _)
                have AO := hide (at_op c k hkl)
                have AN := hide (at_num c k hkl)
                have ck : wr.cell? ⟨g, k, none⟩ = some (.int .i64 ((usedL c.k).getD k 0)) := blk_i64 HGR hkl
                obtain ⟨f, hf⟩ : ∃ z, (usedL c.k).getD k 0 = z := ⟨_, rfl⟩
                rw [hf] at FM AO AN ck
                have KR := K5.out.below HBR.out K5.out.lt
                have q0 : wr.cell? ⟨X, 0, none⟩ = some (.int .u8 c.k) := KR.cell 0
                have q1 : wr.cell? ⟨X, 1, none⟩ = some (.int .i64 c.co) := KR.cell 1
                have q2 : wr.cell? ⟨X, 2, none⟩ = some (.int .i64 c.pe) := KR.cell 2
                have q3 : wr.cell? ⟨X, 3, none⟩ = some (.int .i64 c.tg) := KR.cell 3
                have q4 : wr.cell? ⟨X, 4, none⟩ = some (.int .i64 c.va) := KR.cell 4
                have q5 : wr.cell? ⟨X, 5, none⟩ = some (.int .i64 c.sz) := KR.cell 5
                have q6 : wr.cell? ⟨X, 6, none⟩ = some (.int .i64 c.ro) := KR.cell 6
                have q7 : wr.cell? ⟨X, 7, none⟩ = some (.int .u8 c.op) := KR.cell 7
                have q8 : wr.cell? ⟨X, 8, none⟩ = some (.slice ra c.rq.length rc) := KR.cell 8
                have q9 : wr.cell? ⟨X, 9, none⟩ = some (.int .i64 c.cl) := KR.cell 9
                have q10 : wr.cell? ⟨X, 10, none⟩ = some (.int .i64 c.ky) := KR.cell 10
                clear HGR hf hkl KR
                by_cases h6 : f = 6
                · have h6b : (f == 6) = true := by simpa using h6
                  obtain ⟨o, ho⟩ : ∃ o : Nat, c.op = o := ⟨c.op.toNat, by have := HO.out.op; omega⟩
                  have ho3 : o < 3 := by have := HOP.out; omega
                  have oI : (o : Int) < 3 := by omega
                  have DR := (HD5.out.below HBR.out (Nat.le_refl _)).c o ho3
                  rw [← ho] at DR
                  have ST := hide (AO.out h6)
                  have z1 : (bytes (redL c.op)).size ≤ 3 := by rw [bytes_size]; exact red_len _
                  have EQ : Hid (⟨#[44, 32]⟩ ++ bytes (redL c.op) = bytes (lastAt c (k + 1))) := hide (by rw [ST.out.2, show (⟨#[44, 32]⟩ : ByteArray) = bytes [44, 32] from rfl, bytes_app]; rfl)
                  rw [ho] at q7
                  obtain ⟨SR, hSR⟩ : ∃ s, bytes (redL c.op) = s := ⟨_, rfl⟩
                  rw [hSR] at DR z1 EQ
                  have m0 : (⟨#[44, 32]⟩ : ByteArray).size = 2 := rfl
                  have m1 : ¬ 9223372036854775807 < 2 + SR.size := by omega
                  have HH := hide h6
                  clear hSR ho h6
                  go_wp2_with fail
                  rw [EQ.out]
                  go_roundw
                  case rel => exact ⟨k + 1, A1, cap, by omega, by go_num, by rw [ST.out.1], rfl, by rw [ST.out.1]; exact HOW, HBR⟩
                  case measure => simp [RowKit.intOf] <;> omega
                · have h6b : (f == 6) = false := by simpa using h6
                  have ST := hide (AN.out h6)
                  have NB := hide (fun w' => number_c c ra rc f (S7.out.2 f FM.out) HO.out.op w')
                  unfold Cl.A clA at NB
                  have HH := hide h6
                  clear h6
                  go_wp2_with fail
                  refine (NB.out wr).mono ?_
                  rintro e w6 ⟨rfl, hb6⟩
                  obtain ⟨A2, c2, w7, hrun, hown, hb7⟩ := push_64 w6 w5.heap.size A1 cap _ (numsAt c k) (numF c f) rfl (own_belowR HOW.out hb6) (Nat.le_trans HBR.out.size hb6.size) (by have := numsAt_len c k; omega)
                  have HB7 := hide (HBR.out.trans ((hb6.mono HBR.out.size).trans hb7))
                  have NL : (numsAt c (k + 1)).length = (numsAt c k).length + 1 := by rw [ST.out.1]; simp
                  have HOW7 : Hid (w7.ownsRow w5.heap.size 2 1 (.slice A2 (numsAt c (k + 1)).length c2) (numsAt c (k + 1)).length (i64s (numsAt c (k + 1)))) := hide (by rw [NL, ST.out.1]; exact hown)
                  have HNL := hide NL
                  have RUN := hide hrun
                  clear hrun hown hb6 hb7 NL
                  go_wp2_with (at_builtin; refine Lib.wpList_append_run _ rfl _ _ 50 50 rfl _ _ rfl rfl _ _ RUN.out ?_)
                  go_roundw
                  case rel => exact ⟨k + 1, A2, c2, by omega, by go_num, by rw [HNL.out], by rw [ST.out.2], HOW7, HB7⟩
                  case measure => simp [RowKit.intOf] <;> omega
end Cal
end Go.Proofs.YthcoelkpiflfeaaDoor
