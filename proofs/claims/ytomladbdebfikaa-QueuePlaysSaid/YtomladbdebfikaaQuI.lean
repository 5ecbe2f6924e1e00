/- What is ahead of a message: the program. -/
import Derived.Test.YtomladbdebfikaaRows
import Derived.Test.YtomladbdebfikaaQuH
import Derived.Test.YtomladbdebfikaaRelG
import Derived.Deep.CutRange
namespace Go.Proofs.Ytomladbdebfikaa
open Go Go.RowKit Go.Lib
set_option linter.unusedVariables false
set_option linter.unusedSimpArgs false
namespace Qu
theorem own_wideB {w : World} {B B' size n : Nat} {e : TypeId} {v : Value} {xs : List Value} (h : w.ownsRow B e size v n xs) (hb : B' ≤ B) : w.ownsRow B' e size v n xs := by
  refine ⟨h.1, h.2.imp id ?_⟩
  rintro ⟨g, cap, cur, e, hge, r⟩
  exact ⟨g, cap, cur, e, Nat.le_trans hb hge, r⟩
theorem aheadL_row {l : List Msg} {v : Who} {i : Nat} {m : Msg} (hp : plc l v = some i) (hm : l[i]? = some m) : aheadL l v = untaken ((rowsOf l m.ch).take (rowsOf (l.take i) m.ch).length) := by
  have hg : l.getD i m0 = m := by rw [List.getD_eq_getElem?_getD, hm]; rfl
  unfold aheadL
  rw [hp, (row_at hm).2, untaken_row]
  simp only
  rw [hg]
set_option maxRecDepth 100000 in
set_option maxHeartbeats 16000000 in
theorem Ahead_c {w : World} {q : Nat} {L : QL} {l : List Msg} (h : QSt w q L l) (m : Msg) (hl : l.length ≤ 1000) :
    Calls Try.prog 24 #[.pointer (some ⟨q, 0, none⟩), .agg #[.string m.key, .int .i64 m.fr, .int .i64 m.to, .int .i64 m.ca, .int .i64 m.tg, .int .i64 m.va, .int .i64 m.sz, .bool m.tk]] w fun e w' => ∃ A1 c1, e = .returned (.slice A1 (aheadL l m.who).length c1) ∧ w'.ownsRow w.heap.size 31 8 (.slice A1 (aheadL l m.who).length c1) (aheadL l m.who).length (msgCs (aheadL l m.who)) ∧ Below w.heap.size w w' := by
  have b1 := (Below.refl w.heap.size w).alloc (Nat.le_refl _) (.cells #[.string m.key, .int .i64 m.fr, .int .i64 m.to, .int .i64 m.ca, .int .i64 m.tg, .int .i64 m.va, .int .i64 m.sz, .bool m.tk] 31)
  have kx := Blk.new w 31 #[.string m.key, .int .i64 m.fr, .int .i64 m.to, .int .i64 m.ca, .int .i64 m.tg, .int .i64 m.va, .int .i64 m.sz, .bool m.tk]
  have q1 := h.below b1
  go_enter Try.func24, Try.ntmps24
  go_upto_region 1 with (fail)
  obtain ⟨w1, hw1⟩ : ∃ z, w.alloc (.cells #[.string m.key, .int .i64 m.fr, .int .i64 m.to, .int .i64 m.ca, .int .i64 m.tg, .int .i64 m.va, .int .i64 m.sz, .bool m.tk] 31) = z := ⟨_, rfl⟩
  rw [hw1] at b1 kx q1 ⊢
  obtain ⟨X, hX⟩ : ∃ X, w.heap.size = X := ⟨_, rfl⟩
  rw [hX] at kx ⊢
  have HQ1 := hide q1
  have KM := hide kx
  have HB1 := hide (And.intro b1 b1.size)
  have HX := hide hX
  have MC := hide (made_c q1)
  clear b1 kx q1 hw1 hX h
  go_wp2_with fail
  refine MC.out.mono ?_
  rintro e w1b ⟨rfl, hw1b⟩
  obtain rfl : w1 = w1b := hw1b
  go_upto_region 3 with (fail)
  have br := (Below.refl w1.heap.size w1).alloc (Nat.le_refl _) (.cells #[.string ⟨#[]⟩, .int .i64 0, .int .i64 0, .int .i64 0] 65)
  have kr := Blk.new w1 65 #[.string ⟨#[]⟩, .int .i64 0, .int .i64 0, .int .i64 0]
  have HQ3 := hide (HQ1.out.below br)
  have km3 := KM.out.below br KM.out.lt
  have c1' : w1.cell? ⟨q, 1, none⟩ = some (.map (some L.pm)) := HQ1.out.blk.cell 1
  have c1 : (w1.alloc (.cells #[.string ⟨#[]⟩, .int .i64 0, .int .i64 0, .int .i64 0] 65)).cell? ⟨q, 1, none⟩ = some (.map (some L.pm)) := HQ3.out.blk.cell 1
  have m1' : w1.cell? ⟨X, 1, none⟩ = some (.int .i64 m.fr) := KM.out.cell 1
  have m3' : w1.cell? ⟨X, 3, none⟩ = some (.int .i64 m.ca) := KM.out.cell 3
  have m1 : (w1.alloc (.cells #[.string ⟨#[]⟩, .int .i64 0, .int .i64 0, .int .i64 0] 65)).cell? ⟨X, 1, none⟩ = some (.int .i64 m.fr) := km3.cell 1
  have m3 : (w1.alloc (.cells #[.string ⟨#[]⟩, .int .i64 0, .int .i64 0, .int .i64 0] 65)).cell? ⟨X, 3, none⟩ = some (.int .i64 m.ca) := km3.cell 3
  have lk := SMap.run_lookupOk keyWho Try.underlying58 zero_place m.who L.pm _ _ HQ3.out.drew.mp
  have lk' := SMap.run_lookupOk keyWho Try.underlying58 zero_place m.who L.pm _ w1.drew HQ1.out.drew.mp
  rw [HQ1.out.pin] at lk lk'
  unfold whV Msg.who at lk lk'
  have z0 : (w1.alloc (.cells #[.string ⟨#[]⟩, .int .i64 0, .int .i64 0, .int .i64 0] 65)).cell? ⟨w1.heap.size, 0, none⟩ = some (.string ⟨#[]⟩) := kr.cell 0
  have z1 : (w1.alloc (.cells #[.string ⟨#[]⟩, .int .i64 0, .int .i64 0, .int .i64 0] 65)).cell? ⟨w1.heap.size, 1, none⟩ = some (.int .i64 0) := kr.cell 1
  have z2 : (w1.alloc (.cells #[.string ⟨#[]⟩, .int .i64 0, .int .i64 0, .int .i64 0] 65)).cell? ⟨w1.heap.size, 2, none⟩ = some (.int .i64 0) := kr.cell 2
  have z3 : (w1.alloc (.cells #[.string ⟨#[]⟩, .int .i64 0, .int .i64 0, .int .i64 0] 65)).cell? ⟨w1.heap.size, 3, none⟩ = some (.int .i64 0) := kr.cell 3
  have f0 := kr.frozen 0
  have f1 := kr.frozen 1
  have f2 := kr.frozen 2
  have f3 := kr.frozen 3
  clear km3 br kr
  cases hp : plc l m.who with
  | none =>
    have FA : Hid (aheadL l m.who = []) := hide (by unfold aheadL; rw [hp])
    have hpr : plcR l m.who = none := by unfold plcR; rw [hp]; rfl
    unfold Msg.who at hpr
    rw [hpr] at lk lk'
    simp only [Option.map_none, Option.getD_none, Option.isSome_none] at lk lk'
    have HBA := hide (HB1.out.1.trans ((((Below.refl w1.heap.size w1).alloc (Nat.le_refl _) (.cells #[.string ⟨#[]⟩, .int .i64 0, .int .i64 0, .int .i64 0] 65)).drew).mono HB1.out.2))
    clear hp hpr
    go_region
    all_goals (go_wp2_with fail)
    all_goals go_ret
    all_goals exact ⟨none, 0, by rw [FA.out]; rfl, by rw [FA.out]; exact ⟨rfl, .inl ⟨rfl, rfl⟩⟩, by rw [HX.out]; rw [← HX.out]; exact HBA.out⟩
  | some i =>
    obtain ⟨y, x, hm, hw, hx, hpr, hat, hfi, he, hcap⟩ := plc_row HQ1.out hp
    have FA := hide (aheadL_row hp hm)
    unfold Msg.who at hpr
    rw [hpr] at lk lk'
    generalize hC : y.ch = C at hpr hat he hcap hx lk lk' FA
    generalize hA : (rowsOf (l.take i) C).length = a at hpr hat lk lk' FA
    obtain ⟨ck, cf, ct⟩ := C
    simp only [Option.map_some, Option.getD_some, Option.isSome_some, plV] at lk lk'
    have hal : a < (rowsOf l ⟨ck, cf, ct⟩).length := (List.getElem?_eq_some_iff.1 hat).1
    have hrl := rowsOf_len l ⟨ck, cf, ct⟩
    obtain ⟨r, hr⟩ : ∃ r, rowsOf l ⟨ck, cf, ct⟩ = r := ⟨_, rfl⟩
    obtain ⟨n, hn⟩ : ∃ n, r.length = n := ⟨_, rfl⟩
    rw [hr] at hal hrl hcap
    have HLK : Hid (∀ wx, QSt wx q L l → (Instr.lookup 57 (.map (some L.cm)) (.agg #[.string ck, .int .i64 cf, .int .i64 ct]) false).run Try.prog wx = .ok (.agg #[.slice (some ⟨x.g, 0, none⟩) n x.cap, .int .i64 x.fi]) wx) := hide (fun wx hq => by
      have lk := SMap.run_lookup keyChan Try.underlying57 zero_row ⟨ck, cf, ct⟩ L.cm _ wx hq.mc
      rw [he, hr] at lk
      simp only [Option.getD_some, rowV, chV] at lk
      rw [hn] at lk
      exact lk)
    have HMR : Hid (∀ wx, QSt wx q L l → MRow wx (some ⟨x.g, 0, none⟩) (r.take a)) := hide (fun wx hq => by
      have h1 := hq.crow _ hx
      simp only at h1
      rw [hr] at h1
      exact (MRow.of_own h1 rfl).take a)
    have HAN := hide (show a ≤ 1000 by omega)
    have HAC := hide (show a ≤ x.cap by omega)
    have HTL := hide (show (r.take a).length = a by rw [List.length_take]; omega)
    rw [hr] at FA
    have k5 := Blk.new w1 65 #[.string ck, .int .i64 cf, .int .i64 ct, .int .i64 a]
    have b5 := (Below.refl w1.heap.size w1).alloc (Nat.le_refl _) (.cells #[.string ck, .int .i64 cf, .int .i64 ct, .int .i64 a] 65)
    have K5 := hide (k5.below (Below.refl _ _).drew k5.lt)
    have B5 := hide b5.drew
    clear k5 b5 hp hpr he hat hx hm hw hfi hcap hC hA hal hrl hn hr
    go_cut [5, 6] from 10 to 22 (fun x5 x6 wx => x5 = .pointer (some ⟨w1.heap.size, 0, none⟩) ∧ x6 = .bool true ∧ (w1.alloc (.cells #[.string ck, .int .i64 cf, .int .i64 ct, .int .i64 a] 65)).drew = wx)
    case first =>
      go_region
      all_goals (go_wp2_with fail)
      all_goals go_meet
      all_goals exact ⟨rfl, rfl, rfl⟩
    obtain ⟨rfl, rfl, hwc⟩ := hcut
    subst hwc
    clear lk lk' c1 c1' m1 m1' m3 m3' z0 z1 z2 z3 f0 f1 f2 f3 HQ3
    obtain ⟨w2, hw2⟩ : ∃ z, (w1.alloc (.cells #[.string ck, .int .i64 cf, .int .i64 ct, .int .i64 a] 65)).drew = z := ⟨_, rfl⟩
    obtain ⟨Y, hY⟩ : ∃ z, w1.heap.size = z := ⟨_, rfl⟩
    rw [hw2, hY] at K5 ⊢
    have b5 := B5.out
    rw [hw2] at b5
    have HQ2 := hide (HQ1.out.below b5)
    have HB2 := hide (And.intro (HB1.out.1.trans (b5.mono HB1.out.2)) (Nat.le_trans HB1.out.2 b5.size))
    have KY := K5
    clear b5 B5 hw2 hY K5
    go_upto_region 6 with (fail)
    let R : Nat → Value → World → Prop := fun sl u w1 => match sl with
      | 4 => ∃ A1 c1, u = .slice A1 (untaken (r.take a)).length c1 ∧ w1.ownsRow w.heap.size 31 8 (.slice A1 (untaken (r.take a)).length c1) (untaken (r.take a)).length (msgCs (untaken (r.take a)))
      | 25 => u = .pointer (some ⟨q, 0, none⟩)
      | 26 => u = .pointer (some ⟨q, 0, none⟩)
      | 27 => u = .pointer (some ⟨q, 0, none⟩)
      | 28 => u = .map (some L.cm)
      | 29 => u = .pointer (some ⟨Y, 0, none⟩)
      | 30 => u = .agg #[.string ck, .int .i64 cf, .int .i64 ct]
      | 31 => u = .agg #[.slice (some ⟨x.g, 0, none⟩) n x.cap, .int .i64 x.fi]
      | 32 => u = .slice (some ⟨x.g, 0, none⟩) n x.cap
      | 33 => u = .pointer (some ⟨Y, 3, none⟩)
      | 34 => u = .int .i64 a
      | 35 => u = .slice (some ⟨x.g, 0, none⟩) a x.cap
      | 36 => ∃ A1 c1, u = .slice A1 (untaken (r.take a)).length c1 ∧ w1.ownsRow w.heap.size 31 8 (.slice A1 (untaken (r.take a)).length c1) (untaken (r.take a)).length (msgCs (untaken (r.take a)))
      | _ => True
    refine wp_region_relGW [] R (fun a b => Below a.heap.size a b) (fun _ w => Below w2.heap.size w2 w) (by kernel_rfl) (by kernel_rfl) (by kernel_rfl) (by kernel_rfl) ?mono (fun w => Below.refl _ _) ((Below.refl _ _).drew) ?gs ?step ?fin
    case mono =>
      intro sl u wx wy h hk
      match sl with
      | 36 =>
        obtain ⟨A1, c1, h1, h2⟩ := h
        exact ⟨A1, c1, h1, own_belowR h2 hk⟩
      | 4 =>
        obtain ⟨A1, c1, h1, h2⟩ := h
        exact ⟨A1, c1, h1, own_belowR h2 hk⟩
      | 0 | 1 | 2 | 3 | 5 | 6 | 7 | 8 | 9 | 10 | 11 | 12 | 13 | 14 | 15 | 16 | 17 | 18 | 19 | 20 | 21 | 22 | 23 | 24 | 25 | 26 | 27 | 28 | 29 | 30 | 31 | 32 | 33 | 34 | 35 | _ + 37 => exact h
    case gs =>
      intro p hp u w1 h
      cases hp
    case step =>
      intro j o ho
      match j, ho with
      | 0, ho =>
        cases ho
        intro V aa wx hV hdep hval hj hsm hr
        have e0 : aa.tmps.getD 0 undef = .pointer (some ⟨q, 0, none⟩) := hsm 0 (by decide)
        rw [Array.getD_eq_getD_getElem?] at e0
        unfold Oper.wp
        simp only [execOp, Act.eval, Array.getD_eq_getD_getElem?, e0]
        go_simp
        first | exact ⟨_, rfl, rfl, Below.refl _ _⟩ | exact ⟨_, rfl, rfl, Below.refl _ _, hj⟩ | exact ⟨_, rfl, Below.refl _ _, hj⟩ | exact ⟨_, rfl, hj⟩
      | 1, ho =>
        cases ho
        intro V aa wx hV hdep hval hj hsm hr
        have e25 : aa.tmps.getD 25 undef = .pointer (some ⟨q, 0, none⟩) := hr 25 (by decide) (by apply Array.mem_toList_iff.1; repeat (first | exact List.Mem.head _ | apply List.Mem.tail))
        rw [Array.getD_eq_getD_getElem?] at e25
        unfold Oper.wp
        simp only [execOp, Act.eval, Array.getD_eq_getD_getElem?, e25]
        go_simp
        first | exact ⟨_, rfl, rfl, Below.refl _ _⟩ | exact ⟨_, rfl, rfl, Below.refl _ _, hj⟩ | exact ⟨_, rfl, Below.refl _ _, hj⟩ | exact ⟨_, rfl, hj⟩
      | 2, ho =>
        cases ho
        intro V aa wx hV hdep hval hj hsm hr
        have e26 : aa.tmps.getD 26 undef = .pointer (some ⟨q, 0, none⟩) := hr 26 (by decide) (by apply Array.mem_toList_iff.1; repeat (first | exact List.Mem.head _ | apply List.Mem.tail))
        rw [Array.getD_eq_getD_getElem?] at e26
        unfold Oper.wp
        simp only [execOp, Act.eval, Array.getD_eq_getD_getElem?, e26]
        go_simp
        first | exact ⟨_, rfl, rfl, Below.refl _ _⟩ | exact ⟨_, rfl, rfl, Below.refl _ _, hj⟩ | exact ⟨_, rfl, Below.refl _ _, hj⟩ | exact ⟨_, rfl, hj⟩
      | 3, ho =>
        cases ho
        intro V aa wx hV hdep hval hj hsm hr
        have e27 : aa.tmps.getD 27 undef = .pointer (some ⟨q, 0, none⟩) := hr 27 (by decide) (by apply Array.mem_toList_iff.1; repeat (first | exact List.Mem.head _ | apply List.Mem.tail))
        have c0 : wx.cell? ⟨q, 0, none⟩ = some (.map (some L.cm)) := (HQ2.out.below hj).blk.cell 0
        rw [Array.getD_eq_getD_getElem?] at e27
        unfold Oper.wp
        simp only [execOp, Act.eval, Array.getD_eq_getD_getElem?, e27]
        go_simp
        first | exact ⟨_, rfl, rfl, Below.refl _ _⟩ | exact ⟨_, rfl, rfl, Below.refl _ _, hj⟩ | exact ⟨_, rfl, Below.refl _ _, hj⟩ | exact ⟨_, rfl, hj⟩
      | 4, ho =>
        cases ho
        intro V aa wx hV hdep hval hj hsm hr
        have e5 : aa.tmps.getD 5 undef = .pointer (some ⟨Y, 0, none⟩) := hsm 5 (by decide)
        rw [Array.getD_eq_getD_getElem?] at e5
        unfold Oper.wp
        simp only [execOp, Act.eval, Array.getD_eq_getD_getElem?, e5]
        go_simp
        first | exact ⟨_, rfl, rfl, Below.refl _ _⟩ | exact ⟨_, rfl, rfl, Below.refl _ _, hj⟩ | exact ⟨_, rfl, Below.refl _ _, hj⟩ | exact ⟨_, rfl, hj⟩
      | 5, ho =>
        cases ho
        intro V aa wx hV hdep hval hj hsm hr
        have e29 : aa.tmps.getD 29 undef = .pointer (some ⟨Y, 0, none⟩) := hr 29 (by decide) (by apply Array.mem_toList_iff.1; repeat (first | exact List.Mem.head _ | apply List.Mem.tail))
        have hky := KY.out.below hj KY.out.lt
        have y0 : wx.cell? ⟨Y, 0, none⟩ = some (.string ck) := hky.cell 0
        have y1 : wx.cell? ⟨Y, 1, none⟩ = some (.int .i64 cf) := hky.cell 1
        have y2 : wx.cell? ⟨Y, 2, none⟩ = some (.int .i64 ct) := hky.cell 2
        rw [Array.getD_eq_getD_getElem?] at e29
        unfold Oper.wp
        simp only [execOp, Act.eval, Array.getD_eq_getD_getElem?, e29]
        go_simp
        first | exact ⟨_, rfl, rfl, Below.refl _ _⟩ | exact ⟨_, rfl, rfl, Below.refl _ _, hj⟩ | exact ⟨_, rfl, Below.refl _ _, hj⟩ | exact ⟨_, rfl, hj⟩
      | 6, ho =>
        cases ho
        intro V aa wx hV hdep hval hj hsm hr
        have e28 : aa.tmps.getD 28 undef = .map (some L.cm) := hr 28 (by decide) (by apply Array.mem_toList_iff.1; repeat (first | exact List.Mem.head _ | apply List.Mem.tail))
        have e30 : aa.tmps.getD 30 undef = .agg #[.string ck, .int .i64 cf, .int .i64 ct] := hr 30 (by decide) (by apply Array.mem_toList_iff.1; repeat (first | exact List.Mem.head _ | apply List.Mem.tail))
        have lk := HLK.out wx (HQ2.out.below hj)
        rw [Array.getD_eq_getD_getElem?] at e28
        rw [Array.getD_eq_getD_getElem?] at e30
        unfold Oper.wp
        simp only [execOp, Act.eval, Array.getD_eq_getD_getElem?, e28, e30]
        go_simp
        first | exact ⟨_, rfl, rfl, Below.refl _ _⟩ | exact ⟨_, rfl, rfl, Below.refl _ _, hj⟩ | exact ⟨_, rfl, Below.refl _ _, hj⟩ | exact ⟨_, rfl, hj⟩
      | 7, ho =>
        cases ho
        intro V aa wx hV hdep hval hj hsm hr
        have e31 : aa.tmps.getD 31 undef = .agg #[.slice (some ⟨x.g, 0, none⟩) n x.cap, .int .i64 x.fi] := hr 31 (by decide) (by apply Array.mem_toList_iff.1; repeat (first | exact List.Mem.head _ | apply List.Mem.tail))
        have hfl := run_field0 (some ⟨x.g, 0, none⟩) n x.cap (x.fi : Int) wx
        rw [Array.getD_eq_getD_getElem?] at e31
        unfold Oper.wp
        simp only [execOp, Act.eval, Array.getD_eq_getD_getElem?, e31]
        go_simp
        first | exact ⟨_, rfl, rfl, Below.refl _ _⟩ | exact ⟨_, rfl, rfl, Below.refl _ _, hj⟩ | exact ⟨_, rfl, Below.refl _ _, hj⟩ | exact ⟨_, rfl, hj⟩
      | 8, ho =>
        cases ho
        intro V aa wx hV hdep hval hj hsm hr
        have e5 : aa.tmps.getD 5 undef = .pointer (some ⟨Y, 0, none⟩) := hsm 5 (by decide)
        rw [Array.getD_eq_getD_getElem?] at e5
        unfold Oper.wp
        simp only [execOp, Act.eval, Array.getD_eq_getD_getElem?, e5]
        go_simp
        first | exact ⟨_, rfl, rfl, Below.refl _ _⟩ | exact ⟨_, rfl, rfl, Below.refl _ _, hj⟩ | exact ⟨_, rfl, Below.refl _ _, hj⟩ | exact ⟨_, rfl, hj⟩
      | 9, ho =>
        cases ho
        intro V aa wx hV hdep hval hj hsm hr
        have e33 : aa.tmps.getD 33 undef = .pointer (some ⟨Y, 3, none⟩) := hr 33 (by decide) (by apply Array.mem_toList_iff.1; repeat (first | exact List.Mem.head _ | apply List.Mem.tail))
        have hky := KY.out.below hj KY.out.lt
        have y3 : wx.cell? ⟨Y, 3, none⟩ = some (.int .i64 a) := hky.cell 3
        rw [Array.getD_eq_getD_getElem?] at e33
        unfold Oper.wp
        simp only [execOp, Act.eval, Array.getD_eq_getD_getElem?, e33]
        go_simp
        first | exact ⟨_, rfl, rfl, Below.refl _ _⟩ | exact ⟨_, rfl, rfl, Below.refl _ _, hj⟩ | exact ⟨_, rfl, Below.refl _ _, hj⟩ | exact ⟨_, rfl, hj⟩
      | 10, ho =>
        cases ho
        intro V aa wx hV hdep hval hj hsm hr
        have e32 : aa.tmps.getD 32 undef = .slice (some ⟨x.g, 0, none⟩) n x.cap := hr 32 (by decide) (by apply Array.mem_toList_iff.1; repeat (first | exact List.Mem.head _ | apply List.Mem.tail))
        have e34 : aa.tmps.getD 34 undef = .int .i64 a := hr 34 (by decide) (by apply Array.mem_toList_iff.1; repeat (first | exact List.Mem.head _ | apply List.Mem.tail))
        have al0 : (0 : Int) ≤ (a : Int) := by omega
        have alI : (a : Int) ≤ (x.cap : Int) := by have := HAC.out; omega
        rw [Array.getD_eq_getD_getElem?] at e32
        rw [Array.getD_eq_getD_getElem?] at e34
        unfold Oper.wp
        simp only [execOp, Act.eval, Array.getD_eq_getD_getElem?, e32, e34]
        go_simp
        first | exact ⟨_, rfl, rfl, Below.refl _ _⟩ | exact ⟨_, rfl, rfl, Below.refl _ _, hj⟩ | exact ⟨_, rfl, Below.refl _ _, hj⟩ | exact ⟨_, rfl, hj⟩
      | 11, ho =>
        cases ho
        intro V aa wx hV hdep hval hj hsm hr
        have e35 : aa.tmps.getD 35 undef = .slice (some ⟨x.g, 0, none⟩) a x.cap := hr 35 (by decide) (by apply Array.mem_toList_iff.1; repeat (first | exact List.Mem.head _ | apply List.Mem.tail))
        rw [Array.getD_eq_getD_getElem?] at e35
        unfold Oper.wp
        simp only [execOp, Act.eval, Array.getD_eq_getD_getElem?, e35]
        go_simp
        refine (left_c (w := wx) (some ⟨x.g, 0, none⟩) x.cap a (r.take a) (HMR.out wx (HQ2.out.below hj)) HTL.out (by have := HAN.out; omega)).mono ?_
        rintro e w' ⟨A1, c1, rfl, hown, hb⟩
        exact ⟨_, rfl, ⟨A1, c1, rfl, own_wideB hown (Nat.le_trans HB2.out.2 hj.size)⟩, hb, hj.trans (hb.mono hj.size)⟩
      | 12, ho =>
        cases ho
        intro V aa wx hV hdep hval hj hsm hr
        have r36 := hr 36 (by decide) (by apply Array.mem_toList_iff.1; repeat (first | exact List.Mem.head _ | apply List.Mem.tail))
        obtain ⟨A1, c1, e36, h2⟩ := r36
        have e36 : aa.tmps.getD 36 undef = .slice A1 (untaken (r.take a)).length c1 := e36
        rw [Array.getD_eq_getD_getElem?] at e36
        unfold Oper.wp
        simp only [execOp, Act.eval, Array.getD_eq_getD_getElem?, e36]
        go_simp
        first | exact ⟨_, rfl, ⟨A1, c1, rfl, h2⟩, Below.refl _ _⟩ | exact ⟨_, rfl, ⟨A1, c1, rfl, h2⟩, Below.refl _ _, hj⟩
      | _ + 13, ho => cases ho
    case fin =>
      intro ff V wz hV hj hr
      obtain ⟨A1, c1, e4, hown⟩ : ∃ A1 c1, ff 4 = .slice A1 (untaken (r.take a)).length c1 ∧ wz.ownsRow w.heap.size 31 8 (.slice A1 (untaken (r.take a)).length c1) (untaken (r.take a)).length (msgCs (untaken (r.take a))) := hr 4 (by decide)
      have HO := hide hown
      have HZ := hide (HB2.out.1.trans (hj.mono HB2.out.2))
      clear hV hr hj hown
      simp only [putAll, slotsOf, List.filterMap_cons, List.filterMap_nil, List.foldl_cons, List.foldl_nil, Act.put, e4]
      simp only [List.setIfInBounds_toArray, List.set_cons_succ, List.set_cons_zero]
      go_wp2_with fail
      go_ret
      exact ⟨A1, c1, by rw [FA.out]; rfl, by rw [FA.out]; exact HO.out, HZ.out⟩
end Qu
end Go.Proofs.Ytomladbdebfikaa
