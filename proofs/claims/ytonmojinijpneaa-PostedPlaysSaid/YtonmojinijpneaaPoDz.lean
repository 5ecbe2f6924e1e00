import Derived.Test.YtonmojinijpneaaRows
import Derived.Test.YtonmojinijpneaaQuO
import Derived.Test.YtonmojinijpneaaGround
import Derived.Deep.CutRange
import Derived.Test.YtonmojinijpneaaPoZ
import Derived.Test.YtonmojinijpneaaQuU
import Derived.Test.YtonmojinijpneaaQuXa
import Derived.Test.YtonmojinijpneaaQuT
import Derived.BigQuiet
import Derived.Deep.RegionLaw
import Derived.Laws.Cover3
import Derived.BigRegion
section
/- The document's queue: Ahead. -/
namespace Go.Proofs.Ytonmojinijpneaa
open Go Go.RowKit Go.Lib
set_option linter.unusedVariables false
set_option linter.unusedSimpArgs false
namespace Qu
def picked (l : List Msg) (c : Chan) : List Msg := l.filter fun m => isM m c
theorem picked_app (a b : List Msg) (c : Chan) : picked (a ++ b) c = picked a c ++ picked b c := by simp [picked]
theorem picked_len (a : List Msg) (c : Chan) : (picked a c).length ≤ a.length := List.length_filter_le _ _
set_option maxRecDepth 100000 in
set_option maxHeartbeats 16000000 in
theorem Ahead_b {w : World} {p : Nat} {l : List Msg} (h : RSt w p l) (m : Msg) (hl : l.length ≤ 1000) :
    Calls Try.prog 98 #[.pointer (some ⟨p, 0, none⟩), .agg #[.string m.key, .int .i64 m.fr, .int .i64 m.to, .int .i64 m.ca, .int .i64 m.tg, .int .i64 m.va, .int .i64 m.sz, .bool m.tk]] w fun e w' => ∃ A1 c1, e = .returned (.slice A1 (aheadL l m.who).length c1) ∧ w'.ownsRow w.heap.size 33 8 (.slice A1 (aheadL l m.who).length c1) (aheadL l m.who).length (msgCs (aheadL l m.who)) ∧ Below w.heap.size w w' := by
  have b1 := (Below.refl w.heap.size w).alloc (Nat.le_refl _) (.cells #[.string m.key, .int .i64 m.fr, .int .i64 m.to, .int .i64 m.ca, .int .i64 m.tg, .int .i64 m.va, .int .i64 m.sz, .bool m.tk] 33)
  have kx := Blk.new w 33 #[.string m.key, .int .i64 m.fr, .int .i64 m.to, .int .i64 m.ca, .int .i64 m.tg, .int .i64 m.va, .int .i64 m.sz, .bool m.tk]
  have q1 := h.below b1
  go_enter Try.func98, Try.ntmps98
  go_upto_region 1 with (fail)
  obtain ⟨w1, hw1⟩ : ∃ z, w.alloc (.cells #[.string m.key, .int .i64 m.fr, .int .i64 m.to, .int .i64 m.ca, .int .i64 m.tg, .int .i64 m.va, .int .i64 m.sz, .bool m.tk] 33) = z := ⟨_, rfl⟩
  rw [hw1] at b1 kx q1 ⊢
  obtain ⟨X, hX⟩ : ∃ X, w.heap.size = X := ⟨_, rfl⟩
  rw [hX] at kx ⊢
  have HQ1 := hide q1
  have HQ0 := hide h
  have HB1 := hide (And.intro b1 b1.size)
  have HX := hide hX
  have m1 : w1.cell? ⟨X, 1, none⟩ = some (.int .i64 m.fr) := kx.cell 1
  have m3 : w1.cell? ⟨X, 3, none⟩ = some (.int .i64 m.ca) := kx.cell 3
  have PC := hide (place_b q1 m.who hl)
  clear b1 kx q1 hw1 hX h
  go_wp2_with fail
  refine PC.out.mono ?_
  rintro e w1b ⟨rfl, hw1b⟩
  obtain rfl : w1 = w1b := hw1b
  clear PC
  cases hp : plc l m.who with
  | none =>
    have FA : Hid (aheadL l m.who = []) := hide (by unfold aheadL; rw [hp])
    have e1 : plcI l m.who = -1 := by unfold plcI; rw [hp]
    rw [e1]
    clear e1 hp
    go_wp2_with fail
    go_loopw [5, 7] (fun v5 v7 wr => v5 = .slice none 0 0 ∧ v7 = .int .i64 0 ∧ w1 = wr) (fun _ _ _ => 0)
    case atStart => exact ⟨rfl, rfl, rfl⟩
    case round =>
      obtain ⟨rfl, rfl, hwr⟩ := hrel
      rename World => wr
      subst hwr
      go_wp2_with fail
      go_ret
      exact ⟨none, 0, by rw [FA.out]; rfl, by rw [FA.out]; exact ⟨rfl, .inl ⟨rfl, rfl⟩⟩, HB1.out.1⟩
  | some i =>
    obtain ⟨⟨yk, yf, yt, yc, yg, yv, yz, yb⟩, hm, hw⟩ := plc_some hp
    have e1 : plcI l m.who = (i : Int) := by unfold plcI; rw [hp]
    rw [e1]
    have FA : Hid (aheadL l m.who = picked (l.take i) ⟨yk, yf, yt⟩) := hide (by
      have hg : l.getD i m0 = ⟨yk, yf, yt, yc, yg, yv, yz, yb⟩ := by rw [List.getD_eq_getElem?_getD, hm]; rfl
      unfold aheadL
      rw [hp]
      simp only
      rw [hg]
      rfl)
    obtain ⟨n, hn⟩ : ∃ n, l.length = n := ⟨_, rfl⟩
    have hin := plc_lt hp
    have HN := hide hn
    have HIN := hide (show i < n by omega)
    have HNL := hide (show n ≤ 1000 by omega)
    have HI := hide hm
    have OW0 := hide (show w1.ownsRow w.heap.size 33 8 (.slice none 0 0) 0 (msgCs (picked (l.take 0) ⟨yk, yf, yt⟩)) from ⟨rfl, .inl ⟨rfl, rfl⟩⟩)
    clear e1 hp hw hm hn hin m1 m3
    go_wp2_with fail
    go_loopw [5, 7] (fun v5 v7 wr => ∃ (jj : Nat) (A1 : Option Addr) (c1 : Nat), jj ≤ i ∧ v7 = .int .i64 jj ∧ v5 = .slice A1 (picked (l.take jj) ⟨yk, yf, yt⟩).length c1 ∧ Hid (wr.ownsRow w.heap.size 33 8 (.slice A1 (picked (l.take jj) ⟨yk, yf, yt⟩).length c1) (picked (l.take jj) ⟨yk, yf, yt⟩).length (msgCs (picked (l.take jj) ⟨yk, yf, yt⟩))) ∧ Hid (RSt wr p l) ∧ Hid (Below w.heap.size w wr ∧ w.heap.size ≤ wr.heap.size)) (fun _ v7 _ => i - (RowKit.intOf v7).toNat)
    case atStart => exact ⟨0, none, 0, Nat.zero_le _, rfl, rfl, OW0, HQ1, HB1⟩
    case round =>
      obtain ⟨jj, A1, c1, hj, rfl, rfl, HOW, HQR, HBR⟩ := hrel
      rename World => wr
      have hn1 := HNL.out
      by_cases hlt : jj < i
      rotate_left
      · have hltI : ¬ (jj : Int) < (i : Int) := by omega
        obtain rfl : i = jj := by omega
        go_wp2_with fail
        go_ret
        exact ⟨A1, c1, by rw [FA.out]; rfl, by rw [FA.out]; exact HOW.out, HBR.out.1⟩
      have hltI : (jj : Int) < (i : Int) := by omega
      obtain ⟨A, cap, hb, hown⟩ := HQR.out
      have MR := hide (MRow.of_own hown rfl)
      have c0 : wr.cell? ⟨p, 0, none⟩ = some (.slice A l.length cap) := hb.cell 0
      rw [HN.out] at c0
      have hpb := hb.lt
      clear hb hown
      have hin := HIN.out
      obtain ⟨⟨mk, mf, mt, mc, mg, mv, mz, mb⟩, hm⟩ : ∃ m, l[jj]? = some m := ⟨_, List.getElem?_eq_getElem (by rw [HN.out]; omega)⟩
      obtain ⟨g, rfl, hg, hit⟩ := MR.out.it jj _ hm
      obtain ⟨g2, hgg, _, hit2⟩ := MR.out.it i _ HI.out
      cases hgg
      have n0 : wr.cell? ⟨g, jj * 8, none⟩ = some (.string mk) := hit 0 _ rfl
      have n1 : wr.cell? ⟨g, jj * 8 + 1, none⟩ = some (.int .i64 mf) := hit 1 _ rfl
      have n2 : wr.cell? ⟨g, jj * 8 + 2, none⟩ = some (.int .i64 mt) := hit 2 _ rfl
      have n3 : wr.cell? ⟨g, jj * 8 + 3, none⟩ = some (.int .i64 mc) := hit 3 _ rfl
      have n4 : wr.cell? ⟨g, jj * 8 + 4, none⟩ = some (.int .i64 mg) := hit 4 _ rfl
      have n5 : wr.cell? ⟨g, jj * 8 + 5, none⟩ = some (.int .i64 mv) := hit 5 _ rfl
      have n6 : wr.cell? ⟨g, jj * 8 + 6, none⟩ = some (.int .i64 mz) := hit 6 _ rfl
      have n7 : wr.cell? ⟨g, jj * 8 + 7, none⟩ = some (.bool mb) := hit 7 _ rfl
      have o0 : wr.cell? ⟨g, i * 8, none⟩ = some (.string yk) := hit2 0 _ rfl
      have o1 : wr.cell? ⟨g, i * 8 + 1, none⟩ = some (.int .i64 yf) := hit2 1 _ rfl
      have o2 : wr.cell? ⟨g, i * 8 + 2, none⟩ = some (.int .i64 yt) := hit2 2 _ rfl
      have CEL : Hid (∀ wx, Below wr.heap.size wr wx → ∀ b v, (b = p ∨ b = g) → ∀ k, wr.cell? ⟨b, k, none⟩ = some v → wx.cell? ⟨b, k, none⟩ = some v) := hide (fun wx hb b v hbb k hc => (hb.cell (p := ⟨b, k, none⟩) (by rcases hbb with rfl | rfl <;> assumption)).trans hc)
      have c0r := c0
      have HM := hide hm
      have HLT := hide hlt
      have ltj : (jj : Int) < (n : Int) := by omega
      have lti : (i : Int) < (n : Int) := by omega
      clear hit hit2 hm hlt hg hpb c0 MR
      go_upto_region 6 with (fail)
      let R : Nat → Value → World → Prop := fun sl u w1 => match sl with
        | 19 => u = .pointer (some ⟨p, 0, none⟩)
        | 20 => u = .pointer (some ⟨p, 0, none⟩)
        | 21 => u = .pointer (some ⟨p, 0, none⟩)
        | 22 => u = .slice (some ⟨g, 0, none⟩) n cap
        | 23 => u = .int .i64 jj
        | 24 => u = .pointer (some ⟨g, jj * 8, none⟩)
        | 25 => u = .agg #[.string mk, .int .i64 mf, .int .i64 mt, .int .i64 mc, .int .i64 mg, .int .i64 mv, .int .i64 mz, .bool mb]
        | 26 => u = .pointer (some ⟨p, 0, none⟩)
        | 27 => u = .pointer (some ⟨p, 0, none⟩)
        | 28 => u = .pointer (some ⟨p, 0, none⟩)
        | 29 => u = .slice (some ⟨g, 0, none⟩) n cap
        | 30 => u = .int .i64 i
        | 31 => u = .pointer (some ⟨g, i * 8, none⟩)
        | 32 => u = .pointer (some ⟨g, i * 8, none⟩)
        | 33 => u = .string yk
        | 34 => u = .pointer (some ⟨p, 0, none⟩)
        | 35 => u = .pointer (some ⟨p, 0, none⟩)
        | 36 => u = .pointer (some ⟨p, 0, none⟩)
        | 37 => u = .slice (some ⟨g, 0, none⟩) n cap
        | 38 => u = .int .i64 i
        | 39 => u = .pointer (some ⟨g, i * 8, none⟩)
        | 40 => u = .pointer (some ⟨g, i * 8 + 1, none⟩)
        | 41 => u = .int .i64 yf
        | 42 => u = .pointer (some ⟨p, 0, none⟩)
        | 43 => u = .pointer (some ⟨p, 0, none⟩)
        | 44 => u = .pointer (some ⟨p, 0, none⟩)
        | 45 => u = .slice (some ⟨g, 0, none⟩) n cap
        | 46 => u = .int .i64 i
        | 47 => u = .pointer (some ⟨g, i * 8, none⟩)
        | 48 => u = .pointer (some ⟨g, i * 8 + 2, none⟩)
        | 49 => u = .int .i64 yt
        | 50 => u = .bool (isM ⟨mk, mf, mt, mc, mg, mv, mz, mb⟩ ⟨yk, yf, yt⟩)
        | _ => True
      refine wp_region_relGW [] R (fun a b => Below a.heap.size a b) (fun _ w => Below wr.heap.size wr w) (by kernel_rfl) (by kernel_rfl) (by kernel_rfl) (by kernel_rfl) ?mono (fun w => Below.refl _ _) ((Below.refl _ _).drew) ?gs ?step ?fin
      case mono =>
        intro sl u wx wy h hk
        match sl with
        | 0 | 1 | 2 | 3 | 4 | 5 | 6 | 7 | 8 | 9 | 10 | 11 | 12 | 13 | 14 | 15 | 16 | 17 | 18 | 19 | 20 | 21 | 22 | 23 | 24 | 25 | 26 | 27 | 28 | 29 | 30 | 31 | 32 | 33 | 34 | 35 | 36 | 37 | 38 | 39 | 40 | 41 | 42 | 43 | 44 | 45 | 46 | 47 | 48 | 49 | 50 | _ + 51 => exact h
      case gs =>
        intro p hp u w1 h
        cases hp
      case step =>
        intro j o ho
        match j, ho with
        | 0, ho =>
          cases ho
          intro V aa wx hV hdep hval hj hsm hr
          have e0 : aa.tmps.getD 0 undef = .pointer (some ⟨p, 0, none⟩) := hsm 0 (by decide)
          rw [Array.getD_eq_getD_getElem?] at e0
          unfold Oper.wp
          simp only [execOp, Act.eval, Array.getD_eq_getD_getElem?, e0]
          go_simp
          first | exact ⟨_, rfl, rfl, Below.refl _ _⟩ | exact ⟨_, rfl, rfl, Below.refl _ _, hj⟩ | exact ⟨_, rfl, Below.refl _ _, hj⟩ | exact ⟨_, rfl, hj⟩
        | 1, ho =>
          cases ho
          intro V aa wx hV hdep hval hj hsm hr
          have e19 : aa.tmps.getD 19 undef = .pointer (some ⟨p, 0, none⟩) := hr 19 (by decide) (by apply Array.mem_toList_iff.1; repeat (first | exact List.Mem.head _ | apply List.Mem.tail))
          rw [Array.getD_eq_getD_getElem?] at e19
          unfold Oper.wp
          simp only [execOp, Act.eval, Array.getD_eq_getD_getElem?, e19]
          go_simp
          first | exact ⟨_, rfl, rfl, Below.refl _ _⟩ | exact ⟨_, rfl, rfl, Below.refl _ _, hj⟩ | exact ⟨_, rfl, Below.refl _ _, hj⟩ | exact ⟨_, rfl, hj⟩
        | 2, ho =>
          cases ho
          intro V aa wx hV hdep hval hj hsm hr
          have e20 : aa.tmps.getD 20 undef = .pointer (some ⟨p, 0, none⟩) := hr 20 (by decide) (by apply Array.mem_toList_iff.1; repeat (first | exact List.Mem.head _ | apply List.Mem.tail))
          rw [Array.getD_eq_getD_getElem?] at e20
          unfold Oper.wp
          simp only [execOp, Act.eval, Array.getD_eq_getD_getElem?, e20]
          go_simp
          first | exact ⟨_, rfl, rfl, Below.refl _ _⟩ | exact ⟨_, rfl, rfl, Below.refl _ _, hj⟩ | exact ⟨_, rfl, Below.refl _ _, hj⟩ | exact ⟨_, rfl, hj⟩
        | 3, ho =>
          cases ho
          intro V aa wx hV hdep hval hj hsm hr
          have e21 : aa.tmps.getD 21 undef = .pointer (some ⟨p, 0, none⟩) := hr 21 (by decide) (by apply Array.mem_toList_iff.1; repeat (first | exact List.Mem.head _ | apply List.Mem.tail))
          have c0 : wx.cell? ⟨p, 0, none⟩ = some (.slice (some ⟨g, 0, none⟩) n cap) := CEL.out wx hj _ _ (.inl rfl) _ c0r
          rw [Array.getD_eq_getD_getElem?] at e21
          unfold Oper.wp
          simp only [execOp, Act.eval, Array.getD_eq_getD_getElem?, e21]
          go_simp
          first | exact ⟨_, rfl, rfl, Below.refl _ _⟩ | exact ⟨_, rfl, rfl, Below.refl _ _, hj⟩ | exact ⟨_, rfl, Below.refl _ _, hj⟩ | exact ⟨_, rfl, hj⟩
        | 4, ho =>
          cases ho
          intro V aa wx hV hdep hval hj hsm hr
          have e7 : aa.tmps.getD 7 undef = .int .i64 jj := hsm 7 (by decide)
          rw [Array.getD_eq_getD_getElem?] at e7
          unfold Oper.wp
          simp only [execOp, Act.eval, Array.getD_eq_getD_getElem?, e7]
          go_simp
          first | exact ⟨_, rfl, rfl, Below.refl _ _⟩ | exact ⟨_, rfl, rfl, Below.refl _ _, hj⟩ | exact ⟨_, rfl, Below.refl _ _, hj⟩ | exact ⟨_, rfl, hj⟩
        | 5, ho =>
          cases ho
          intro V aa wx hV hdep hval hj hsm hr
          have e22 : aa.tmps.getD 22 undef = .slice (some ⟨g, 0, none⟩) n cap := hr 22 (by decide) (by apply Array.mem_toList_iff.1; repeat (first | exact List.Mem.head _ | apply List.Mem.tail))
          have e23 : aa.tmps.getD 23 undef = .int .i64 jj := hr 23 (by decide) (by apply Array.mem_toList_iff.1; repeat (first | exact List.Mem.head _ | apply List.Mem.tail))
          have al0 : (jj : Int) < (n : Int) := ltj
          rw [Array.getD_eq_getD_getElem?] at e22
          rw [Array.getD_eq_getD_getElem?] at e23
          unfold Oper.wp
          simp only [execOp, Act.eval, Array.getD_eq_getD_getElem?, e22, e23]
          go_simp
          first | exact ⟨_, rfl, rfl, Below.refl _ _⟩ | exact ⟨_, rfl, rfl, Below.refl _ _, hj⟩ | exact ⟨_, rfl, Below.refl _ _, hj⟩ | exact ⟨_, rfl, hj⟩
        | 6, ho =>
          cases ho
          intro V aa wx hV hdep hval hj hsm hr
          have e24 : aa.tmps.getD 24 undef = .pointer (some ⟨g, jj * 8, none⟩) := hr 24 (by decide) (by apply Array.mem_toList_iff.1; repeat (first | exact List.Mem.head _ | apply List.Mem.tail))
          have x0 : wx.cell? ⟨g, jj * 8, none⟩ = some (.string mk) := CEL.out wx hj _ _ (.inr rfl) _ n0
          have x1 : wx.cell? ⟨g, jj * 8 + 1, none⟩ = some (.int .i64 mf) := CEL.out wx hj _ _ (.inr rfl) _ n1
          have x2 : wx.cell? ⟨g, jj * 8 + 2, none⟩ = some (.int .i64 mt) := CEL.out wx hj _ _ (.inr rfl) _ n2
          have x3 : wx.cell? ⟨g, jj * 8 + 3, none⟩ = some (.int .i64 mc) := CEL.out wx hj _ _ (.inr rfl) _ n3
          have x4 : wx.cell? ⟨g, jj * 8 + 4, none⟩ = some (.int .i64 mg) := CEL.out wx hj _ _ (.inr rfl) _ n4
          have x5 : wx.cell? ⟨g, jj * 8 + 5, none⟩ = some (.int .i64 mv) := CEL.out wx hj _ _ (.inr rfl) _ n5
          have x6 : wx.cell? ⟨g, jj * 8 + 6, none⟩ = some (.int .i64 mz) := CEL.out wx hj _ _ (.inr rfl) _ n6
          have x7 : wx.cell? ⟨g, jj * 8 + 7, none⟩ = some (.bool mb) := CEL.out wx hj _ _ (.inr rfl) _ n7
          rw [Array.getD_eq_getD_getElem?] at e24
          unfold Oper.wp
          simp only [execOp, Act.eval, Array.getD_eq_getD_getElem?, e24]
          go_simp
          first | exact ⟨_, rfl, rfl, Below.refl _ _⟩ | exact ⟨_, rfl, rfl, Below.refl _ _, hj⟩ | exact ⟨_, rfl, Below.refl _ _, hj⟩ | exact ⟨_, rfl, hj⟩
        | 7, ho =>
          cases ho
          intro V aa wx hV hdep hval hj hsm hr
          have e0 : aa.tmps.getD 0 undef = .pointer (some ⟨p, 0, none⟩) := hsm 0 (by decide)
          rw [Array.getD_eq_getD_getElem?] at e0
          unfold Oper.wp
          simp only [execOp, Act.eval, Array.getD_eq_getD_getElem?, e0]
          go_simp
          first | exact ⟨_, rfl, rfl, Below.refl _ _⟩ | exact ⟨_, rfl, rfl, Below.refl _ _, hj⟩ | exact ⟨_, rfl, Below.refl _ _, hj⟩ | exact ⟨_, rfl, hj⟩
        | 8, ho =>
          cases ho
          intro V aa wx hV hdep hval hj hsm hr
          have e26 : aa.tmps.getD 26 undef = .pointer (some ⟨p, 0, none⟩) := hr 26 (by decide) (by apply Array.mem_toList_iff.1; repeat (first | exact List.Mem.head _ | apply List.Mem.tail))
          rw [Array.getD_eq_getD_getElem?] at e26
          unfold Oper.wp
          simp only [execOp, Act.eval, Array.getD_eq_getD_getElem?, e26]
          go_simp
          first | exact ⟨_, rfl, rfl, Below.refl _ _⟩ | exact ⟨_, rfl, rfl, Below.refl _ _, hj⟩ | exact ⟨_, rfl, Below.refl _ _, hj⟩ | exact ⟨_, rfl, hj⟩
        | 9, ho =>
          cases ho
          intro V aa wx hV hdep hval hj hsm hr
          have e27 : aa.tmps.getD 27 undef = .pointer (some ⟨p, 0, none⟩) := hr 27 (by decide) (by apply Array.mem_toList_iff.1; repeat (first | exact List.Mem.head _ | apply List.Mem.tail))
          rw [Array.getD_eq_getD_getElem?] at e27
          unfold Oper.wp
          simp only [execOp, Act.eval, Array.getD_eq_getD_getElem?, e27]
          go_simp
          first | exact ⟨_, rfl, rfl, Below.refl _ _⟩ | exact ⟨_, rfl, rfl, Below.refl _ _, hj⟩ | exact ⟨_, rfl, Below.refl _ _, hj⟩ | exact ⟨_, rfl, hj⟩
        | 10, ho =>
          cases ho
          intro V aa wx hV hdep hval hj hsm hr
          have e28 : aa.tmps.getD 28 undef = .pointer (some ⟨p, 0, none⟩) := hr 28 (by decide) (by apply Array.mem_toList_iff.1; repeat (first | exact List.Mem.head _ | apply List.Mem.tail))
          have c0 : wx.cell? ⟨p, 0, none⟩ = some (.slice (some ⟨g, 0, none⟩) n cap) := CEL.out wx hj _ _ (.inl rfl) _ c0r
          rw [Array.getD_eq_getD_getElem?] at e28
          unfold Oper.wp
          simp only [execOp, Act.eval, Array.getD_eq_getD_getElem?, e28]
          go_simp
          first | exact ⟨_, rfl, rfl, Below.refl _ _⟩ | exact ⟨_, rfl, rfl, Below.refl _ _, hj⟩ | exact ⟨_, rfl, Below.refl _ _, hj⟩ | exact ⟨_, rfl, hj⟩
        | 11, ho =>
          cases ho
          intro V aa wx hV hdep hval hj hsm hr
          have e6 : aa.tmps.getD 6 undef = .int .i64 i := hsm 6 (by decide)
          rw [Array.getD_eq_getD_getElem?] at e6
          unfold Oper.wp
          simp only [execOp, Act.eval, Array.getD_eq_getD_getElem?, e6]
          go_simp
          first | exact ⟨_, rfl, rfl, Below.refl _ _⟩ | exact ⟨_, rfl, rfl, Below.refl _ _, hj⟩ | exact ⟨_, rfl, Below.refl _ _, hj⟩ | exact ⟨_, rfl, hj⟩
        | 12, ho =>
          cases ho
          intro V aa wx hV hdep hval hj hsm hr
          have e29 : aa.tmps.getD 29 undef = .slice (some ⟨g, 0, none⟩) n cap := hr 29 (by decide) (by apply Array.mem_toList_iff.1; repeat (first | exact List.Mem.head _ | apply List.Mem.tail))
          have e30 : aa.tmps.getD 30 undef = .int .i64 i := hr 30 (by decide) (by apply Array.mem_toList_iff.1; repeat (first | exact List.Mem.head _ | apply List.Mem.tail))
          have al0 : (i : Int) < (n : Int) := lti
          rw [Array.getD_eq_getD_getElem?] at e29
          rw [Array.getD_eq_getD_getElem?] at e30
          unfold Oper.wp
          simp only [execOp, Act.eval, Array.getD_eq_getD_getElem?, e29, e30]
          go_simp
          first | exact ⟨_, rfl, rfl, Below.refl _ _⟩ | exact ⟨_, rfl, rfl, Below.refl _ _, hj⟩ | exact ⟨_, rfl, Below.refl _ _, hj⟩ | exact ⟨_, rfl, hj⟩
        | 13, ho =>
          cases ho
          intro V aa wx hV hdep hval hj hsm hr
          have e31 : aa.tmps.getD 31 undef = .pointer (some ⟨g, i * 8, none⟩) := hr 31 (by decide) (by apply Array.mem_toList_iff.1; repeat (first | exact List.Mem.head _ | apply List.Mem.tail))
          rw [Array.getD_eq_getD_getElem?] at e31
          unfold Oper.wp
          simp only [execOp, Act.eval, Array.getD_eq_getD_getElem?, e31]
          go_simp
          first | exact ⟨_, rfl, rfl, Below.refl _ _⟩ | exact ⟨_, rfl, rfl, Below.refl _ _, hj⟩ | exact ⟨_, rfl, Below.refl _ _, hj⟩ | exact ⟨_, rfl, hj⟩
        | 14, ho =>
          cases ho
          intro V aa wx hV hdep hval hj hsm hr
          have e32 : aa.tmps.getD 32 undef = .pointer (some ⟨g, i * 8, none⟩) := hr 32 (by decide) (by apply Array.mem_toList_iff.1; repeat (first | exact List.Mem.head _ | apply List.Mem.tail))
          have x0 : wx.cell? ⟨g, i * 8, none⟩ = some (.string yk) := CEL.out wx hj _ _ (.inr rfl) _ o0
          rw [Array.getD_eq_getD_getElem?] at e32
          unfold Oper.wp
          simp only [execOp, Act.eval, Array.getD_eq_getD_getElem?, e32]
          go_simp
          first | exact ⟨_, rfl, rfl, Below.refl _ _⟩ | exact ⟨_, rfl, rfl, Below.refl _ _, hj⟩ | exact ⟨_, rfl, Below.refl _ _, hj⟩ | exact ⟨_, rfl, hj⟩
        | 15, ho =>
          cases ho
          intro V aa wx hV hdep hval hj hsm hr
          have e0 : aa.tmps.getD 0 undef = .pointer (some ⟨p, 0, none⟩) := hsm 0 (by decide)
          rw [Array.getD_eq_getD_getElem?] at e0
          unfold Oper.wp
          simp only [execOp, Act.eval, Array.getD_eq_getD_getElem?, e0]
          go_simp
          first | exact ⟨_, rfl, rfl, Below.refl _ _⟩ | exact ⟨_, rfl, rfl, Below.refl _ _, hj⟩ | exact ⟨_, rfl, Below.refl _ _, hj⟩ | exact ⟨_, rfl, hj⟩
        | 16, ho =>
          cases ho
          intro V aa wx hV hdep hval hj hsm hr
          have e34 : aa.tmps.getD 34 undef = .pointer (some ⟨p, 0, none⟩) := hr 34 (by decide) (by apply Array.mem_toList_iff.1; repeat (first | exact List.Mem.head _ | apply List.Mem.tail))
          rw [Array.getD_eq_getD_getElem?] at e34
          unfold Oper.wp
          simp only [execOp, Act.eval, Array.getD_eq_getD_getElem?, e34]
          go_simp
          first | exact ⟨_, rfl, rfl, Below.refl _ _⟩ | exact ⟨_, rfl, rfl, Below.refl _ _, hj⟩ | exact ⟨_, rfl, Below.refl _ _, hj⟩ | exact ⟨_, rfl, hj⟩
        | 17, ho =>
          cases ho
          intro V aa wx hV hdep hval hj hsm hr
          have e35 : aa.tmps.getD 35 undef = .pointer (some ⟨p, 0, none⟩) := hr 35 (by decide) (by apply Array.mem_toList_iff.1; repeat (first | exact List.Mem.head _ | apply List.Mem.tail))
          rw [Array.getD_eq_getD_getElem?] at e35
          unfold Oper.wp
          simp only [execOp, Act.eval, Array.getD_eq_getD_getElem?, e35]
          go_simp
          first | exact ⟨_, rfl, rfl, Below.refl _ _⟩ | exact ⟨_, rfl, rfl, Below.refl _ _, hj⟩ | exact ⟨_, rfl, Below.refl _ _, hj⟩ | exact ⟨_, rfl, hj⟩
        | 18, ho =>
          cases ho
          intro V aa wx hV hdep hval hj hsm hr
          have e36 : aa.tmps.getD 36 undef = .pointer (some ⟨p, 0, none⟩) := hr 36 (by decide) (by apply Array.mem_toList_iff.1; repeat (first | exact List.Mem.head _ | apply List.Mem.tail))
          have c0 : wx.cell? ⟨p, 0, none⟩ = some (.slice (some ⟨g, 0, none⟩) n cap) := CEL.out wx hj _ _ (.inl rfl) _ c0r
          rw [Array.getD_eq_getD_getElem?] at e36
          unfold Oper.wp
          simp only [execOp, Act.eval, Array.getD_eq_getD_getElem?, e36]
          go_simp
          first | exact ⟨_, rfl, rfl, Below.refl _ _⟩ | exact ⟨_, rfl, rfl, Below.refl _ _, hj⟩ | exact ⟨_, rfl, Below.refl _ _, hj⟩ | exact ⟨_, rfl, hj⟩
        | 19, ho =>
          cases ho
          intro V aa wx hV hdep hval hj hsm hr
          have e6 : aa.tmps.getD 6 undef = .int .i64 i := hsm 6 (by decide)
          rw [Array.getD_eq_getD_getElem?] at e6
          unfold Oper.wp
          simp only [execOp, Act.eval, Array.getD_eq_getD_getElem?, e6]
          go_simp
          first | exact ⟨_, rfl, rfl, Below.refl _ _⟩ | exact ⟨_, rfl, rfl, Below.refl _ _, hj⟩ | exact ⟨_, rfl, Below.refl _ _, hj⟩ | exact ⟨_, rfl, hj⟩
        | 20, ho =>
          cases ho
          intro V aa wx hV hdep hval hj hsm hr
          have e37 : aa.tmps.getD 37 undef = .slice (some ⟨g, 0, none⟩) n cap := hr 37 (by decide) (by apply Array.mem_toList_iff.1; repeat (first | exact List.Mem.head _ | apply List.Mem.tail))
          have e38 : aa.tmps.getD 38 undef = .int .i64 i := hr 38 (by decide) (by apply Array.mem_toList_iff.1; repeat (first | exact List.Mem.head _ | apply List.Mem.tail))
          have al0 : (i : Int) < (n : Int) := lti
          rw [Array.getD_eq_getD_getElem?] at e37
          rw [Array.getD_eq_getD_getElem?] at e38
          unfold Oper.wp
          simp only [execOp, Act.eval, Array.getD_eq_getD_getElem?, e37, e38]
          go_simp
          first | exact ⟨_, rfl, rfl, Below.refl _ _⟩ | exact ⟨_, rfl, rfl, Below.refl _ _, hj⟩ | exact ⟨_, rfl, Below.refl _ _, hj⟩ | exact ⟨_, rfl, hj⟩
        | 21, ho =>
          cases ho
          intro V aa wx hV hdep hval hj hsm hr
          have e39 : aa.tmps.getD 39 undef = .pointer (some ⟨g, i * 8, none⟩) := hr 39 (by decide) (by apply Array.mem_toList_iff.1; repeat (first | exact List.Mem.head _ | apply List.Mem.tail))
          rw [Array.getD_eq_getD_getElem?] at e39
          unfold Oper.wp
          simp only [execOp, Act.eval, Array.getD_eq_getD_getElem?, e39]
          go_simp
          first | exact ⟨_, rfl, rfl, Below.refl _ _⟩ | exact ⟨_, rfl, rfl, Below.refl _ _, hj⟩ | exact ⟨_, rfl, Below.refl _ _, hj⟩ | exact ⟨_, rfl, hj⟩
        | 22, ho =>
          cases ho
          intro V aa wx hV hdep hval hj hsm hr
          have e40 : aa.tmps.getD 40 undef = .pointer (some ⟨g, i * 8 + 1, none⟩) := hr 40 (by decide) (by apply Array.mem_toList_iff.1; repeat (first | exact List.Mem.head _ | apply List.Mem.tail))
          have x1 : wx.cell? ⟨g, i * 8 + 1, none⟩ = some (.int .i64 yf) := CEL.out wx hj _ _ (.inr rfl) _ o1
          rw [Array.getD_eq_getD_getElem?] at e40
          unfold Oper.wp
          simp only [execOp, Act.eval, Array.getD_eq_getD_getElem?, e40]
          go_simp
          first | exact ⟨_, rfl, rfl, Below.refl _ _⟩ | exact ⟨_, rfl, rfl, Below.refl _ _, hj⟩ | exact ⟨_, rfl, Below.refl _ _, hj⟩ | exact ⟨_, rfl, hj⟩
        | 23, ho =>
          cases ho
          intro V aa wx hV hdep hval hj hsm hr
          have e0 : aa.tmps.getD 0 undef = .pointer (some ⟨p, 0, none⟩) := hsm 0 (by decide)
          rw [Array.getD_eq_getD_getElem?] at e0
          unfold Oper.wp
          simp only [execOp, Act.eval, Array.getD_eq_getD_getElem?, e0]
          go_simp
          first | exact ⟨_, rfl, rfl, Below.refl _ _⟩ | exact ⟨_, rfl, rfl, Below.refl _ _, hj⟩ | exact ⟨_, rfl, Below.refl _ _, hj⟩ | exact ⟨_, rfl, hj⟩
        | 24, ho =>
          cases ho
          intro V aa wx hV hdep hval hj hsm hr
          have e42 : aa.tmps.getD 42 undef = .pointer (some ⟨p, 0, none⟩) := hr 42 (by decide) (by apply Array.mem_toList_iff.1; repeat (first | exact List.Mem.head _ | apply List.Mem.tail))
          rw [Array.getD_eq_getD_getElem?] at e42
          unfold Oper.wp
          simp only [execOp, Act.eval, Array.getD_eq_getD_getElem?, e42]
          go_simp
          first | exact ⟨_, rfl, rfl, Below.refl _ _⟩ | exact ⟨_, rfl, rfl, Below.refl _ _, hj⟩ | exact ⟨_, rfl, Below.refl _ _, hj⟩ | exact ⟨_, rfl, hj⟩
        | 25, ho =>
          cases ho
          intro V aa wx hV hdep hval hj hsm hr
          have e43 : aa.tmps.getD 43 undef = .pointer (some ⟨p, 0, none⟩) := hr 43 (by decide) (by apply Array.mem_toList_iff.1; repeat (first | exact List.Mem.head _ | apply List.Mem.tail))
          rw [Array.getD_eq_getD_getElem?] at e43
          unfold Oper.wp
          simp only [execOp, Act.eval, Array.getD_eq_getD_getElem?, e43]
          go_simp
          first | exact ⟨_, rfl, rfl, Below.refl _ _⟩ | exact ⟨_, rfl, rfl, Below.refl _ _, hj⟩ | exact ⟨_, rfl, Below.refl _ _, hj⟩ | exact ⟨_, rfl, hj⟩
        | 26, ho =>
          cases ho
          intro V aa wx hV hdep hval hj hsm hr
          have e44 : aa.tmps.getD 44 undef = .pointer (some ⟨p, 0, none⟩) := hr 44 (by decide) (by apply Array.mem_toList_iff.1; repeat (first | exact List.Mem.head _ | apply List.Mem.tail))
          have c0 : wx.cell? ⟨p, 0, none⟩ = some (.slice (some ⟨g, 0, none⟩) n cap) := CEL.out wx hj _ _ (.inl rfl) _ c0r
          rw [Array.getD_eq_getD_getElem?] at e44
          unfold Oper.wp
          simp only [execOp, Act.eval, Array.getD_eq_getD_getElem?, e44]
          go_simp
          first | exact ⟨_, rfl, rfl, Below.refl _ _⟩ | exact ⟨_, rfl, rfl, Below.refl _ _, hj⟩ | exact ⟨_, rfl, Below.refl _ _, hj⟩ | exact ⟨_, rfl, hj⟩
        | 27, ho =>
          cases ho
          intro V aa wx hV hdep hval hj hsm hr
          have e6 : aa.tmps.getD 6 undef = .int .i64 i := hsm 6 (by decide)
          rw [Array.getD_eq_getD_getElem?] at e6
          unfold Oper.wp
          simp only [execOp, Act.eval, Array.getD_eq_getD_getElem?, e6]
          go_simp
          first | exact ⟨_, rfl, rfl, Below.refl _ _⟩ | exact ⟨_, rfl, rfl, Below.refl _ _, hj⟩ | exact ⟨_, rfl, Below.refl _ _, hj⟩ | exact ⟨_, rfl, hj⟩
        | 28, ho =>
          cases ho
          intro V aa wx hV hdep hval hj hsm hr
          have e45 : aa.tmps.getD 45 undef = .slice (some ⟨g, 0, none⟩) n cap := hr 45 (by decide) (by apply Array.mem_toList_iff.1; repeat (first | exact List.Mem.head _ | apply List.Mem.tail))
          have e46 : aa.tmps.getD 46 undef = .int .i64 i := hr 46 (by decide) (by apply Array.mem_toList_iff.1; repeat (first | exact List.Mem.head _ | apply List.Mem.tail))
          have al0 : (i : Int) < (n : Int) := lti
          rw [Array.getD_eq_getD_getElem?] at e45
          rw [Array.getD_eq_getD_getElem?] at e46
          unfold Oper.wp
          simp only [execOp, Act.eval, Array.getD_eq_getD_getElem?, e45, e46]
          go_simp
          first | exact ⟨_, rfl, rfl, Below.refl _ _⟩ | exact ⟨_, rfl, rfl, Below.refl _ _, hj⟩ | exact ⟨_, rfl, Below.refl _ _, hj⟩ | exact ⟨_, rfl, hj⟩
        | 29, ho =>
          cases ho
          intro V aa wx hV hdep hval hj hsm hr
          have e47 : aa.tmps.getD 47 undef = .pointer (some ⟨g, i * 8, none⟩) := hr 47 (by decide) (by apply Array.mem_toList_iff.1; repeat (first | exact List.Mem.head _ | apply List.Mem.tail))
          rw [Array.getD_eq_getD_getElem?] at e47
          unfold Oper.wp
          simp only [execOp, Act.eval, Array.getD_eq_getD_getElem?, e47]
          go_simp
          first | exact ⟨_, rfl, rfl, Below.refl _ _⟩ | exact ⟨_, rfl, rfl, Below.refl _ _, hj⟩ | exact ⟨_, rfl, Below.refl _ _, hj⟩ | exact ⟨_, rfl, hj⟩
        | 30, ho =>
          cases ho
          intro V aa wx hV hdep hval hj hsm hr
          have e48 : aa.tmps.getD 48 undef = .pointer (some ⟨g, i * 8 + 2, none⟩) := hr 48 (by decide) (by apply Array.mem_toList_iff.1; repeat (first | exact List.Mem.head _ | apply List.Mem.tail))
          have x2 : wx.cell? ⟨g, i * 8 + 2, none⟩ = some (.int .i64 yt) := CEL.out wx hj _ _ (.inr rfl) _ o2
          rw [Array.getD_eq_getD_getElem?] at e48
          unfold Oper.wp
          simp only [execOp, Act.eval, Array.getD_eq_getD_getElem?, e48]
          go_simp
          first | exact ⟨_, rfl, rfl, Below.refl _ _⟩ | exact ⟨_, rfl, rfl, Below.refl _ _, hj⟩ | exact ⟨_, rfl, Below.refl _ _, hj⟩ | exact ⟨_, rfl, hj⟩
        | 31, ho =>
          cases ho
          intro V aa wx hV hdep hval hj hsm hr
          have e25 : aa.tmps.getD 25 undef = .agg #[.string mk, .int .i64 mf, .int .i64 mt, .int .i64 mc, .int .i64 mg, .int .i64 mv, .int .i64 mz, .bool mb] := hr 25 (by decide) (by apply Array.mem_toList_iff.1; repeat (first | exact List.Mem.head _ | apply List.Mem.tail))
          have e33 : aa.tmps.getD 33 undef = .string yk := hr 33 (by decide) (by apply Array.mem_toList_iff.1; repeat (first | exact List.Mem.head _ | apply List.Mem.tail))
          have e41 : aa.tmps.getD 41 undef = .int .i64 yf := hr 41 (by decide) (by apply Array.mem_toList_iff.1; repeat (first | exact List.Mem.head _ | apply List.Mem.tail))
          have e49 : aa.tmps.getD 49 undef = .int .i64 yt := hr 49 (by decide) (by apply Array.mem_toList_iff.1; repeat (first | exact List.Mem.head _ | apply List.Mem.tail))
          rw [Array.getD_eq_getD_getElem?] at e25
          rw [Array.getD_eq_getD_getElem?] at e33
          rw [Array.getD_eq_getD_getElem?] at e41
          rw [Array.getD_eq_getD_getElem?] at e49
          unfold Oper.wp
          simp only [execOp, Act.eval, Array.getD_eq_getD_getElem?, e25, e33, e41, e49]
          go_simp
          refine (is_b ⟨mk, mf, mt, mc, mg, mv, mz, mb⟩ ⟨yk, yf, yt⟩ wx).mono ?_
          rintro e w' ⟨rfl, hb⟩
          exact ⟨_, rfl, rfl, hb, hj.trans (hb.mono hj.size)⟩
        | _ + 32, ho => cases ho
      case fin =>
        intro ff V ws hV hjs hr
        have e50 : ff 50 = .bool (isM ⟨mk, mf, mt, mc, mg, mv, mz, mb⟩ ⟨yk, yf, yt⟩) := hr 50 (by decide)
        have HBS := hide (And.intro (HBR.out.1.trans (hjs.mono HBR.out.2)) (Nat.le_trans HBR.out.2 hjs.size))
        have OWS := hide (own_belowR HOW.out hjs)
        have HQS := hide (HQR.out.below hjs)
        have HTS := hide (show l.take (jj + 1) = l.take jj ++ [⟨mk, mf, mt, mc, mg, mv, mz, mb⟩] by
          obtain ⟨hl1, he1⟩ := List.getElem?_eq_some_iff.1 HM.out
          rw [List.take_succ_eq_append_getElem hl1, he1])
        have hul := picked_len (l.take jj) ⟨yk, yf, yt⟩
        have HUL := hide (show (picked (l.take jj) ⟨yk, yf, yt⟩).length ≤ 1000 by rw [List.length_take] at hul; omega)
        have c0 : ws.cell? ⟨p, 0, none⟩ = some (.slice (some ⟨g, 0, none⟩) n cap) := CEL.out ws hjs _ _ (.inl rfl) _ c0r
        have x0 : ws.cell? ⟨g, jj * 8, none⟩ = some (.string mk) := CEL.out ws hjs _ _ (.inr rfl) _ n0
        have x1 : ws.cell? ⟨g, jj * 8 + 1, none⟩ = some (.int .i64 mf) := CEL.out ws hjs _ _ (.inr rfl) _ n1
        have x2 : ws.cell? ⟨g, jj * 8 + 2, none⟩ = some (.int .i64 mt) := CEL.out ws hjs _ _ (.inr rfl) _ n2
        have x3 : ws.cell? ⟨g, jj * 8 + 3, none⟩ = some (.int .i64 mc) := CEL.out ws hjs _ _ (.inr rfl) _ n3
        have x4 : ws.cell? ⟨g, jj * 8 + 4, none⟩ = some (.int .i64 mg) := CEL.out ws hjs _ _ (.inr rfl) _ n4
        have x5 : ws.cell? ⟨g, jj * 8 + 5, none⟩ = some (.int .i64 mv) := CEL.out ws hjs _ _ (.inr rfl) _ n5
        have x6 : ws.cell? ⟨g, jj * 8 + 6, none⟩ = some (.int .i64 mz) := CEL.out ws hjs _ _ (.inr rfl) _ n6
        have x7 : ws.cell? ⟨g, jj * 8 + 7, none⟩ = some (.bool mb) := CEL.out ws hjs _ _ (.inr rfl) _ n7
        simp only [putAll, slotsOf, List.filterMap_cons, List.filterMap_nil, List.foldl_cons, List.foldl_nil, Act.put, e50]
        simp only [List.setIfInBounds_toArray, List.set_cons_succ, List.set_cons_zero]
        obtain ⟨bb, hbb⟩ : ∃ z, isM ⟨mk, mf, mt, mc, mg, mv, mz, mb⟩ ⟨yk, yf, yt⟩ = z := ⟨_, rfl⟩
        rw [hbb]
        have HBBv := hide hbb
        clear hV hr hjs e50 hul hbb n0 n1 n2 n3 n4 n5 n6 n7 o0 o1 o2 c0r
        cases bb with
        | false =>
          have HU : Hid (picked (l.take (jj + 1)) ⟨yk, yf, yt⟩ = picked (l.take jj) ⟨yk, yf, yt⟩) := hide (by rw [HTS.out, picked_app]; simp [picked, HBBv.out])
          go_wp2_with fail
          go_roundw
          case rel => exact ⟨jj + 1, A1, c1, HLT.out, by go_num, by rw [HU.out], by rw [HU.out]; exact OWS, HQS, HBS⟩
          case measure => have := HLT.out; simp [RowKit.intOf] <;> omega
        | true =>
          have HU : Hid (picked (l.take (jj + 1)) ⟨yk, yf, yt⟩ = picked (l.take jj) ⟨yk, yf, yt⟩ ++ [⟨mk, mf, mt, mc, mg, mv, mz, mb⟩]) := hide (by rw [HTS.out, picked_app]; simp [picked, HBBv.out])
          obtain ⟨A2, c2, w2, hrun, hown, hgr, _⟩ := push_m ws w.heap.size A1 c1 _ _ ⟨mk, mf, mt, mc, mg, mv, mz, mb⟩ OWS.out HBS.out.2 (by have := HUL.out; omega)
          have HB2 := hide (And.intro (HBS.out.1.grown hgr HBS.out.2 fun k e => (own_block OWS.out e).1) (Nat.le_trans HBS.out.2 hgr.size))
          have HLN := hide (show (picked (l.take (jj + 1)) ⟨yk, yf, yt⟩).length = (picked (l.take jj) ⟨yk, yf, yt⟩).length + 1 by rw [HU.out]; simp)
          have OW2 := hide (show w2.ownsRow w.heap.size 33 8 (.slice A2 ((picked (l.take jj) ⟨yk, yf, yt⟩).length + 1) c2) ((picked (l.take jj) ⟨yk, yf, yt⟩).length + 1) (msgCs (picked (l.take (jj + 1)) ⟨yk, yf, yt⟩)) by
            rw [HU.out, msgCs_app]
            simpa [msgCs] using hown)
          have HQ2 := hide (HQ0.out.below HB2.out.1)
          have RUN := hide hrun
          clear hrun hown hgr
          go_wp2_with (at_builtin; refine Lib.wpList_append_run _ rfl _ _ 45 45 rfl _ _ rfl rfl _ _ RUN.out ?_)
          go_roundw
          case rel => exact ⟨jj + 1, A2, c2, HLT.out, by go_num, by rw [HLN.out], by rw [HLN.out]; exact OW2, HQ2, HB2⟩
          case measure => have := HLT.out; simp [RowKit.intOf] <;> omega
end Qu
end Go.Proofs.Ytonmojinijpneaa
end
section
/- All messages that may be a rank's: no two of one sender and call. A row of messages put behind another one. -/
namespace Go.Proofs.Ytonmojinijpneaa
open Go Go.RowKit Go.Lib Go.Joins Go.Proofs.Ytonmojinijpneaa.Qu
set_option linter.unusedVariables false
set_option linter.unusedSimpArgs false
namespace Po
theorem grt_small {n : Nat} {F : Nat → Ac} (h : grt n F = false) : n ≤ 120 := by
  unfold grt at h
  rw [Bool.or_eq_false_iff] at h
  have := of_decide_eq_false h.1
  omega
/-- What may be the first of some receives'. -/
def allM (l : List Msg) (rs : List Rc) (xs : List Rc) : List Msg := xs.flatMap fun x => mayL l rs x.ca
theorem allM_step {l : List Msg} {rs xs : List Rc} {i : Nat} {x : Rc} (h : xs[i]? = some x) : allM l rs (xs.take (i + 1)) = allM l rs (xs.take i) ++ mayL l rs x.ca := by
  obtain ⟨hl, he⟩ := List.getElem?_eq_some_iff.1 h
  unfold allM
  rw [List.take_succ_eq_append_getElem hl, he, List.flatMap_append, List.flatMap_singleton]
theorem allM_len {l : List Msg} {rs : List Rc} : ∀ (xs : List Rc), (allM l rs xs).length ≤ 64 * xs.length
  | [] => Nat.zero_le _
  | x :: xs => by
    have h := allM_len (l := l) (rs := rs) xs
    have h2 := mayL_len l rs x.ca
    unfold allM at h ⊢
    rw [List.flatMap_cons, List.length_append, List.length_cons]
    omega
theorem rise_one {rs : List Rc} (hup : rs.Pairwise fun a b => a.ca < b.ca) {a b : Rc} (ha : a ∈ rs) (hb : b ∈ rs) (e : a.ca = b.ca) : a = b := by
  obtain ⟨i, hi⟩ := List.getElem?_of_mem ha
  have h1 := rise_find rs i a hup hi
  obtain ⟨j, hj⟩ := List.getElem?_of_mem hb
  have h2 := rise_find rs j b hup hj
  rw [e] at h1
  have := h1.symm.trans h2
  injection this
theorem may_rise (l : List Msg) (rs : List Rc) (ca : Int) : (mayL l rs ca).Pairwise fun a b => a.fr < b.fr := by
  unfold mayL
  split
  · exact List.Pairwise.nil
  · split
    · exact List.Pairwise.nil
    · exact free_rise _ _ _
/-- The same message may be of one waiting receive alone. -/
theorem may_one {l : List Msg} {rs : List Rc} (hu : Uniq l) (hup : rs.Pairwise fun a b => a.ca < b.ca) {c1 c2 : Int} {a b : Msg} (ha : a ∈ mayL l rs c1) (hb : b ∈ mayL l rs c2) (he : a.fr = b.fr ∧ a.ca = b.ca) : c1 = c2 := by
  obtain ⟨ra, hra, hca, hda, hfa⟩ := mayL_mem ha
  obtain ⟨rb, hrb, hcb, hdb, hfb⟩ := mayL_mem hb
  have hla := mem_freeL hfa
  have hlb := mem_freeL hfb
  have hab : a = b := nodup_inj (fun m : Msg => m.who) hu hla.1 hlb.1 (by show (⟨a.fr, a.ca⟩ : Who) = ⟨b.fr, b.ca⟩; rw [he.1, he.2])
  subst hab
  rcases Int.lt_trichotomy c1 c2 with h | h | h
  · have := may_apart (b := rb) hra hda (by omega) (by rw [hcb]; exact hfb)
    rw [hla.2.2.1] at this
    cases this
  · exact h
  · have := may_apart (b := ra) hrb hdb (by omega) (by rw [hca]; exact hfa)
    rw [hlb.2.2.1] at this
    cases this
theorem all_apart {l : List Msg} {rs xs : List Rc} (hu : Uniq l) (hup : rs.Pairwise fun a b => a.ca < b.ca) (hx : xs.Pairwise fun a b => a.ca < b.ca) : (allM l rs xs).Pairwise fun a b => ¬ (a.fr = b.fr ∧ a.ca = b.ca) := by
  unfold allM
  rw [List.pairwise_flatMap]
  refine ⟨fun x _ => (may_rise l rs x.ca).imp fun {a b} h e => by omega, hx.imp fun {x y} h a ha b hb e => ?_⟩
  have := may_one hu hup ha hb e
  omega
theorem wts_rise {rs : List Rc} (h : rs.Pairwise fun a b => a.ca < b.ca) : (wts rs).Pairwise fun a b => a.ca < b.ca := h.filter _
theorem wts_mem {rs : List Rc} {x : Rc} (h : x ∈ wts rs) : x ∈ rs ∧ x.dn = false := by
  unfold wts at h
  have := List.mem_filter.1 h
  exact ⟨this.1, by simpa using this.2⟩
/-- One of a waiting receive's: it fits, it isn't taken. -/
theorem may_of_wait {l : List Msg} {rs : List Rc} (hup : rs.Pairwise fun a b => a.ca < b.ca) {x : Rc} (hx : x ∈ wts rs) {m : Msg} (hm : m ∈ mayL l rs x.ca) : m.tk = false ∧ fitsB x m = true := by
  obtain ⟨r, hr, hc, hd, hf⟩ := mayL_mem hm
  have e := rise_one hup hr (wts_mem hx).1 hc
  subst e
  have := mem_freeL hf
  exact ⟨this.2.1, this.2.2.1⟩
theorem ms_info : (Try.prog.info? 33).map (fun i => (i.zero, i.size, i.bytes)) = some (some (.agg #[.string ⟨#[]⟩, .int .i64 0, .int .i64 0, .int .i64 0, .int .i64 0, .int .i64 0, .int .i64 0, .bool false]), 8, 72) := by kernel_rfl
theorem msgCs_one : ∀ (r : List Msg), ∀ u ∈ msgCs r, u.oneCell' = true
  | [], u, h => absurd h List.not_mem_nil
  | m :: r, u, h => by
    rw [msgCs] at h
    rcases List.mem_append.1 h with h | h
    · unfold msgC at h
      simp only [List.mem_cons, List.not_mem_nil, or_false] at h
      rcases h with rfl | rfl | rfl | rfl | rfl | rfl | rfl | rfl <;> rfl
    · exact msgCs_one r u h
theorem reads_own {w : World} {B n c : Nat} {e : TypeId} {A : Option Addr} {size : Nat} {xs : List Value} (h : w.ownsRow B e size (.slice A n c) n xs) : Reads w w.heap.size size A n xs := by
  refine ⟨h.1, fun hn => ?_⟩
  obtain ⟨g, hA, _, _, ⟨cs, hb⟩, _, _, hc⟩ := own_cell h hn
  exact ⟨_, hA, hb.lt, fun j u hu => by rw [add_lit]; exact hc j u hu⟩
/-- A row of messages put behind a row of one's own. -/
theorem push_ms (w : World) (B : Nat) (A : Option Addr) (cap n : Nat) (xs : List Value) (h : w.ownsRow B 33 8 (.slice A n cap) n xs) (hB : B ≤ w.heap.size) {B2 : Nat} (A2 : Option Addr) (c2 m : Nat) (r : List Msg) (ho : w.ownsRow B2 33 8 (.slice A2 m c2) m (msgCs r)) (hl : n + m ≤ 100000) :
    ∃ A1 c1 w1, (Builtin.append_ #[45, 45] 45 #[.slice A n cap, .slice A2 m c2]).run Try.prog w = .ok (.slice A1 (n + m) c1) w1 ∧
      w1.ownsRow B 33 8 (.slice A1 (n + m) c1) (n + m) (xs ++ msgCs r) ∧ w.grownBy w1 (Value.slice A n cap).ownBlock := by
  obtain ⟨i0, hi0, hz0', hz1, hz2⟩ := info_parts ms_info
  obtain ⟨v11, w11, hrun, hown, hk11, hob⟩ := run_append_any (P := Try.prog) w B 45 45 33 i0 _ 8 72 Try.underlying45 hi0 hz0' hz1 hz2 (by rfl) (by omega) _ _ _ h w.heap.size A2 m c2 _ (reads_own ho) (msgCs_one r) (by unfold maxLen; omega) (by omega) (by omega)
  obtain ⟨A11, c11, rfl⟩ := own_form hown
  exact ⟨A11, c11, w11, hrun, hown, hk11⟩
end Po
end Go.Proofs.Ytonmojinijpneaa
end
section
/- A receive that comes in; a match that is refused; what a probe's are. -/
namespace Go.Proofs.Ytonmojinijpneaa
open Go Go.Joins Go.ChangeShapes Go.WideShapes Go.RowKit Go.Deep Go.Lib Go.Proofs.Ytonmojinijpneaa.Qu
set_option linter.unusedVariables false
set_option linter.unusedSimpArgs false
namespace Po
theorem nine (l : List Value) (h : l.length = 9) : ∃ c0 c1 c2 c3 c4 c5 c6 c7 c8, l = [c0, c1, c2, c3, c4, c5, c6, c7, c8] := by
  match l, h with
  | [c0, c1, c2, c3, c4, c5, c6, c7, c8], _ => exact ⟨_, _, _, _, _, _, _, _, _, rfl⟩
def recK : List Kd := [.s, .i .i64, .i .i64, .i .i64, .i .i64, .i .i64, .b, .i .i64, .i .i64]
section
variable {H : Type} {enc : TypeId × Value → H} {w : World} {base : Nat} {spare : Nat → Bool} {held : Bool}
set_option maxRecDepth 100000 in
theorem rec_of {v : Value} {d : DataW H} {p : List MemPlace} {b0 : Nat} (o : Value.okWide Try.prog w .any b0 35 v) (r : DataW.Trod enc Try.prog w base spare held 35 v d p) :
    ∃ (key : ByteArray) (rk ca pe tg rq : Int) (dn : Bool) (fr sq : Int), v = .agg #[.string key, .int .i64 rk, .int .i64 ca, .int .i64 pe, .int .i64 tg, .int .i64 rq, .bool dn, .int .i64 fr, .int .i64 sq] := by
  obtain ⟨cs, rfl, hsz⟩ := okWide_struct Try.underlying35 o
  obtain ⟨fuel, hf⟩ := r
  obtain ⟨l⟩ := cs
  have hfit : Fits recK l := (flat_both 30).1 35 recK (by kernel_rfl) fuel l (d, p) (by simpa [Value.cells] using hf)
  obtain ⟨c0, c1, c2, c3, c4, c5, c6, c7, c8, rfl⟩ := nine l hfit.1
  obtain ⟨v0, g0, f0⟩ := hfit.2 0 _ rfl
  obtain ⟨v1, g1, f1⟩ := hfit.2 1 _ rfl
  obtain ⟨v2, g2, f2⟩ := hfit.2 2 _ rfl
  obtain ⟨v3, g3, f3⟩ := hfit.2 3 _ rfl
  obtain ⟨v4, g4, f4⟩ := hfit.2 4 _ rfl
  obtain ⟨v5, g5, f5⟩ := hfit.2 5 _ rfl
  obtain ⟨v6, g6, f6⟩ := hfit.2 6 _ rfl
  obtain ⟨v7, g7, f7⟩ := hfit.2 7 _ rfl
  obtain ⟨v8, g8, f8⟩ := hfit.2 8 _ rfl
  obtain ⟨z0, rfl, _⟩ := f0
  obtain ⟨z1, rfl, _⟩ := f1
  obtain ⟨z2, rfl, _⟩ := f2
  obtain ⟨z3, rfl, _⟩ := f3
  obtain ⟨z4, rfl, _⟩ := f4
  obtain ⟨z5, rfl, _⟩ := f5
  obtain ⟨z6, rfl⟩ := f6
  obtain ⟨z7, rfl, _⟩ := f7
  obtain ⟨z8, rfl, _⟩ := f8
  obtain rfl : c0 = .string z0 := by simpa using g0
  obtain rfl : c1 = .int .i64 z1 := by simpa using g1
  obtain rfl : c2 = .int .i64 z2 := by simpa using g2
  obtain rfl : c3 = .int .i64 z3 := by simpa using g3
  obtain rfl : c4 = .int .i64 z4 := by simpa using g4
  obtain rfl : c5 = .int .i64 z5 := by simpa using g5
  obtain rfl : c6 = .bool z6 := by simpa using g6
  obtain rfl : c7 = .int .i64 z7 := by simpa using g7
  obtain rfl : c8 = .int .i64 z8 := by simpa using g8
  exact ⟨z0, z1, z2, z3, z4, z5, z6, z7, z8, rfl⟩
end
/-- What may be a probe's is what would be a receive's that is posted now. -/
theorem probe_post {l : List Msg} {ls : Nat → List Rc} {r : Rc} {k : Nat} (hk : r.rk = k) (hok : postOk ls r) : mayL l (postL ls r k) r.ca = freeL l r (ls k) := by
  have hrk : r.rk.toNat = k := by omega
  have hlt := hok.2
  rw [hrk] at hlt
  unfold postL
  rw [if_pos hok, hrk, updF_at]
  unfold mayL
  have hf : (ls k ++ [fresh r]).find? (fun x => decide (x.ca = r.ca)) = some (fresh r) := by
    rw [List.find?_append, List.find?_eq_none.2 (fun x hx => by have := hlt x hx; simp; omega)]
    simp [fresh]
  have hg : (ls k ++ [fresh r]).filter (fun x => decide (x.ca < r.ca)) = ls k := by
    rw [List.filter_append, List.filter_eq_self.2 (fun x hx => by have := hlt x hx; simpa using this)]
    simp [fresh]
  rw [hf, hg]
  rfl
/-- One of a sender alone may be a receive's. -/
theorem has_other {l : List Msg} {rs : List Rc} {ca : Int} {m : Msg} {x : Int} (hm : m ∈ mayL l rs ca) (hx : x ≠ m.ca) : hasB (mayL l rs ca) m.fr x = false := by
  cases hb : hasB (mayL l rs ca) m.fr x with
  | false => rfl
  | true =>
    obtain ⟨y, hy, h1, h2⟩ := hasB_mem hb
    have : y = m := by
      obtain ⟨i, hi⟩ := List.getElem?_of_mem hy
      obtain ⟨j, hj⟩ := List.getElem?_of_mem hm
      obtain ⟨h3, e3⟩ := List.getElem?_eq_some_iff.1 hi
      obtain ⟨h4, e4⟩ := List.getElem?_eq_some_iff.1 hj
      rcases Nat.lt_trichotomy i j with h | h | h
      · have := (List.pairwise_iff_getElem.1 (may_rise l rs ca)) i j h3 h4 h
        rw [e3, e4] at this
        omega
      · subst h
        rw [hi] at hj
        injection hj
      · have := (List.pairwise_iff_getElem.1 (may_rise l rs ca)) j i h4 h3 h
        rw [e3, e4] at this
        omega
    rw [this] at h2
    exact absurd h2.symm hx
theorem has_first {l : List Msg} {rs : List Rc} {ca : Int} {m : Msg} (hm : m ∈ mayL l rs ca) : matchE l rs ca m.fr m.ca = 0 := by
  unfold matchE
  rw [hasB_of hm]
  rfl
set_option maxRecDepth 100000 in
set_option maxHeartbeats 8000000 in
theorem Match_no {w : World} {p q : Nat} {L : Nat → Option Addr × Nat} {K : QL} {ls : Nat → List Rc} {l : List Msg} (h : PQ w p q L K ls l) (hlen : ∀ k, k < 64 → (ls k).length ≤ 1000) (hl : l.length ≤ 1000) (k : Nat) (hk : k < 64) (ca fr sq : Int) (hno : hasB (mayL l (ls k) ca) fr sq = false) :
    Calls Try.prog 30 #[.pointer (some ⟨p, 0, none⟩), .pointer (some ⟨q, 0, none⟩), .int .i64 k, .int .i64 ca, .int .i64 fr, .int .i64 sq] w fun e w' => e = .returned (.int .i64 2) ∧ Below w.heap.size w w' := by
  have b1 := (Below.refl w.heap.size w).alloc (Nat.le_refl _) (.cells #[.int .i64 fr] 3)
  have k1 := Blk.new w 3 #[.int .i64 fr]
  obtain ⟨w1, hw1⟩ : ∃ z, w.alloc (.cells #[.int .i64 fr] 3) = z := ⟨_, rfl⟩
  obtain ⟨X, hX⟩ : ∃ z, w.heap.size = z := ⟨_, rfl⟩
  have s1 : w1.heap.size = w.heap.size + 1 := by rw [← hw1]; simp
  rw [hw1] at b1 k1
  have b2 := (Below.refl w1.heap.size w1).alloc (Nat.le_refl _) (.cells #[.int .i64 sq] 3)
  have k2 := Blk.new w1 3 #[.int .i64 sq]
  obtain ⟨w2, hw2⟩ : ∃ z, w1.alloc (.cells #[.int .i64 sq] 3) = z := ⟨_, rfl⟩
  have s2 : w2.heap.size = w.heap.size + 2 := by rw [← hw2]; simp [s1]
  rw [hw2] at b2 k2
  have HL0 := hide h.lt
  rw [hX] at k1 s1 s2
  rw [s1] at k2
  have KA := hide (k1.below b2 (by omega))
  have KB := hide k2
  have B2 : Hid (Below w.heap.size w w2) := hide (b1.trans (b2.mono (by omega)))
  have H2 := hide (h.below B2.out)
  have HNO := hide hno
  clear hno
  have HW1 := hide hw1
  have HW2 := hide hw2
  have HX := hide hX
  have S1 := hide s1
  have MY := hide (may_c H2.out.hp hlen H2.out.hq hl k hk ca)
  have HLEN := hide (hlen k hk)
  have hk0 : ¬ (k : Int) < 0 := by omega
  have hk2 : (k : Int) < 64 := by omega
  have HML : Hid ((mayL l (ls k) ca).length ≤ 64) := hide (by
    unfold mayL
    split
    · exact Nat.zero_le _
    · split
      · exact Nat.zero_le _
      · unfold freeL flt
        refine Nat.le_trans (List.length_filter_le _ _) (Nat.le_trans (fsts_len _ _ _ _ _) ?_)
        unfold sndL
        split
        · exact senders_len _ _
        · exact Nat.le_of_ble_eq_true rfl)
  clear hw1 hw2 hX b1 b2 k1 k2 s1 s2 h hlen
  go_enter Try.func30, Try.ntmps30
  go_upto_region 1 with (fail)
  rw [HW1.out, HX.out, HW2.out]
  go_upto_region 4 with (go_at_call 60; refine (made_yes _ _ _ _ H2.out.hp).mono ?_; rintro e w' ⟨rfl, rfl⟩)
  go_wp2_with fail
  refine MY.out.mono ?_
  rintro e w3 ⟨A1, c1, rfl, hob, hb3⟩
  obtain ⟨ml, hml⟩ : ∃ z, mayL l (ls k) ca = z := ⟨_, rfl⟩
  rw [hml] at hob HML
  rw [hml]
  obtain ⟨n, hn⟩ : ∃ z, ml.length = z := ⟨_, rfl⟩
  rw [hn] at hob HML
  rw [hn]
  have CC := hide (contains_c w3 A1 c1 n ml (MRow.of_own hob hn) hn (by have := HML.out; omega) fr sq X (X + 1) ((KA.out.below hb3 KA.out.lt).cell 0) ((KB.out.below hb3 KB.out.lt).cell 0) (Nat.lt_of_lt_of_le KA.out.lt hb3.size) (Nat.lt_of_lt_of_le KB.out.lt hb3.size))
  have B3 := hide (B2.out.trans (hb3.mono B2.out.size))
  have KA3 := hide (KA.out.below hb3 KA.out.lt)
  have KB3 := hide (KB.out.below hb3 KB.out.lt)
  have H3 := hide (H2.out.below hb3)
  have HMLE := hide hml
  clear hob hb3 hml hn MY
  go_wp2_with fail
  refine CC.out.mono ?_
  rintro e w4 ⟨rfl, hb4⟩
  have B4 := hide (B3.out.trans (hb4.mono B3.out.size))
  have KA4 := hide (KA3.out.below hb4 KA3.out.lt)
  have KB4 := hide (KB3.out.below hb4 KB3.out.lt)
  have H4 := hide (H3.out.below hb4)
  obtain ⟨hb, hhb⟩ : ∃ z, hasB ml fr sq = z := ⟨_, rfl⟩
  rw [hhb]
  have HHB : Hid (hasB (mayL l (ls k) ca) fr sq = hb) := hide (by rw [HMLE.out, hhb])
  clear hb4 hhb CC
  obtain rfl : hb = false := HHB.out.symm.trans HNO.out
  go_wp2_with fail
  go_ret
  exact ⟨rfl, B4.out⟩
end Po
end Go.Proofs.Ytonmojinijpneaa
end
section
/- The document's receives, all in one row, and the program's, rank by rank. No program. -/
namespace Go.Proofs.Ytonmojinijpneaa
open Go Go.Proofs.Ytonmojinijpneaa.Qu
set_option linter.unusedVariables false
set_option linter.unusedSimpArgs false
namespace Po
/-- A rank's receives. -/
def lsOf (rl : List Rc) (k : Nat) : List Rc := rl.filter fun r => decide (r.rk = (k : Int))
theorem lsOf_len (rl : List Rc) (k : Nat) : (lsOf rl k).length ≤ rl.length := List.length_filter_le _ _
theorem lsOf_mem {rl : List Rc} {k : Nat} {r : Rc} : r ∈ lsOf rl k ↔ r ∈ rl ∧ r.rk = k := by simp [lsOf]
def okG (rl : List Rc) : Prop := ∀ r ∈ rl, mayR r
def postC (rl : List Rc) (r : Rc) : Prop := mayR r ∧ ∀ x ∈ rl, x.rk = r.rk → x.ca < r.ca
instance (rl : List Rc) (r : Rc) : Decidable (postC rl r) := by unfold postC; exact inferInstance
theorem postC_iff {rl : List Rc} {r : Rc} : postOk (lsOf rl) r ↔ postC rl r := by
  unfold postOk postC
  refine and_congr_right fun hm => ?_
  have hk : ((r.rk.toNat : Nat) : Int) = r.rk := by have := hm.1; omega
  constructor
  · intro h x hx hr
    exact h x (lsOf_mem.2 ⟨hx, by rw [hk, hr]⟩)
  · intro h x hx
    obtain ⟨h1, h2⟩ := lsOf_mem.1 hx
    exact h x h1 (by rw [h2, hk])
def postG (rl : List Rc) (r : Rc) : List Rc := if postC rl r then rl ++ [fresh r] else rl
theorem postE_G (rl : List Rc) (r : Rc) : postE (lsOf rl) r = if postC rl r then 0 else 2 := by
  unfold postE
  by_cases h : postC rl r
  · rw [if_pos h, if_pos (postC_iff.2 h)]
  · rw [if_neg h, if_neg fun h2 => h (postC_iff.1 h2)]
theorem postL_G (rl : List Rc) (r : Rc) : postL (lsOf rl) r = lsOf (postG rl r) := by
  unfold postL postG
  by_cases h : postC rl r
  · rw [if_pos h, if_pos (postC_iff.2 h)]
    have hk : ((r.rk.toNat : Nat) : Int) = r.rk := by have := h.1.1; omega
    refine funext fun j => ?_
    by_cases e : j = r.rk.toNat
    · subst e
      rw [updF_at]
      unfold lsOf
      rw [List.filter_append]
      congr 1
      rw [List.filter_cons_of_pos (by rw [hk]; simp [fresh]), List.filter_nil]
    · rw [updF_ne _ _ _ e]
      unfold lsOf
      have h2 : [fresh r].filter (fun x => decide (x.rk = (j : Int))) = [] := by
        rw [List.filter_eq_nil_iff]
        intro x hx
        rw [List.mem_singleton] at hx
        subst hx
        rw [decide_eq_true_eq]
        show ¬ r.rk = (j : Int)
        omega
      rw [List.filter_append, h2, List.append_nil]
  · rw [if_neg h, if_neg fun h2 => h (postC_iff.1 h2)]
theorem postG_ok {rl : List Rc} {r : Rc} (h : okG rl) : okG (postG rl r) := by
  unfold postG
  split
  · rename_i hc
    intro x hx
    rcases List.mem_append.1 hx with hx | hx
    · exact h x hx
    · rw [List.mem_singleton] at hx
      subst hx
      exact hc.1
  · exact h
theorem postG_len (rl : List Rc) (r : Rc) : (postG rl r).length ≤ rl.length + 1 := by unfold postG; split <;> simp
/-- The receive of a rank's call. -/
def atG (rl : List Rc) (rk ca : Int) : Option Rc := rl.find? fun x => decide (x.rk = rk) && decide (x.ca = ca)
theorem find_filter {α : Type} {p q : α → Bool} : ∀ l : List α, (l.filter p).find? q = l.find? fun x => p x && q x
  | [] => rfl
  | x :: t => by
    cases hp : p x with
    | true =>
      rw [List.filter_cons_of_pos hp, List.find?_cons, List.find?_cons, find_filter t, hp]
      rfl
    | false =>
      rw [List.filter_cons_of_neg (by rw [hp]; decide), List.find?_cons, find_filter t, hp]
      rfl
theorem atG_in (rl : List Rc) (k : Nat) (ca : Int) : atL (lsOf rl k) ca = atG rl k ca := find_filter rl
theorem atG_out {rl : List Rc} (h : okG rl) {rk : Int} (hr : rk < 0 ∨ 64 ≤ rk) (ca : Int) : atG rl rk ca = none := by
  unfold atG
  refine List.find?_eq_none.2 fun x hx => ?_
  have h1 := (h x hx).1
  have h2 := (h x hx).2.1
  have : ¬ x.rk = rk := by omega
  simp [this]
/-- Those of a rank that wait. -/
def waitG (rl : List Rc) (rk : Int) : List Rc := rl.filter fun x => decide (x.rk = rk) && !x.dn
theorem waitG_wts {rl : List Rc} (h : okG rl) (rk : Int) : wts (rowL (lsOf rl) rk) = waitG rl rk := by
  unfold rowL
  split
  · rename_i hr
    obtain ⟨k, rfl⟩ : ∃ k : Nat, rk = k := ⟨rk.toNat, by omega⟩
    unfold wts lsOf waitG
    rw [List.filter_filter]
    congr 1
    funext x
    rw [Bool.and_comm]
    rfl
  · rename_i hr
    show [] = _
    symm
    unfold waitG
    rw [List.filter_eq_nil_iff]
    intro x hx
    have h1 := (h x hx).1
    have h2 := (h x hx).2.1
    have : ¬ x.rk = rk := by omega
    simp [this]
/-- May a message be a receive's, or a probe's? -/
def itsB (rl : List Rc) (l : List Msg) (r : Rc) (m : Msg) (pr : Bool) : Bool :=
  !m.tk && fitsB r m && (aheadL l m.who).all (fun y => !fitsB r y) && (waitG rl r.rk).all fun x => !((pr || decide (x.ca < r.ca)) && fitsB x m)
def allG (rl : List Rc) (l LF : List Msg) (r : Rc) (pr : Bool) : List Msg := (upto 64).flatMap fun f => LF.filter fun m => decide (m.fr = f) && itsB rl l r m pr
theorem find_take {α : Type} {P : α → Bool} {l : List α} {i : Nat} {m : α} (h : l[i]? = some m) (hp : P m = true) (hl : ∀ y ∈ l.take i, P y = false) : l.find? P = some m := by
  rw [cut_at h, List.find?_append, List.find?_eq_none.2 (fun y hy => by rw [hl y hy]; decide), List.find?_cons, hp]
  rfl
theorem uniq_nodup {l : List Msg} (h : Uniq l) : l.Nodup := by
  unfold Uniq at h
  exact (List.nodup_iff_pairwise_ne.2 ((List.pairwise_map.1 (List.nodup_iff_pairwise_ne.1 h)).imp fun {a b} hab e => hab (congrArg Msg.who e)))
/-- It is the first of its channel that fits, just if it fits and none ahead does. -/
theorem its_first {l : List Msg} (hu : Uniq l) {r : Rc} {m : Msg} (hm : m ∈ l) (ht : m.tk = false) :
    (fitsB r m = true ∧ (aheadL l m.who).all (fun y => !fitsB r y) = true) ↔ (firstL l ⟨r.key, m.fr, r.rk⟩ r.tg = some m ∧ (r.pe = -1 ∨ r.pe = m.fr)) := by
  obtain ⟨i, hi⟩ := List.getElem?_of_mem hm
  have hp := plc_uniq hu hi
  have hg : l.getD i m0 = m := by rw [List.getD_eq_getElem?_getD, hi]; rfl
  have ha : aheadL l m.who = (l.take i).filter fun y => isM y m.ch := by
    unfold aheadL
    rw [hp]
    simp only
    rw [hg]
  rw [ha, List.all_filter]
  constructor
  · rintro ⟨hf, hall⟩
    unfold fitsB at hf
    obtain ⟨h1, h2, h3, h4⟩ := of_decide_eq_true hf
    refine ⟨?_, h3⟩
    have hch : (⟨r.key, m.fr, r.rk⟩ : Chan) = m.ch := by unfold Msg.ch; rw [h1, h2]
    rw [hch]
    unfold firstL
    refine find_take hi ?_ fun y hy => ?_
    · simp [isM, ht, tagged, h4]
    · have h5 := List.all_eq_true.1 hall y hy
      cases hM : isM y m.ch with
      | false => rfl
      | true =>
        rw [hM] at h5
        cases hT : tagged r.tg y with
        | false => rfl
        | true =>
          exfalso
          have hy2 := isM_parts hM
          have : fitsB r y = true := by
            unfold fitsB
            unfold tagged at hT
            simp at hT
            refine decide_eq_true ⟨h1.trans hy2.2.1.symm, h2.trans hy2.2.2.2.symm, ?_, hT⟩
            rw [show y.fr = m.fr from hy2.2.2.1]
            exact h3
          rw [this] at h5
          simp at h5
  · rintro ⟨hf, hpe⟩
    obtain ⟨_, h5, h6⟩ := first_mem hf
    obtain ⟨_, e2, e3, e4⟩ := isM_parts h5
    simp only at e2 e3 e4
    unfold tagged at h6
    simp at h6
    refine ⟨by unfold fitsB; exact decide_eq_true ⟨e2.symm, e4.symm, hpe, h6⟩, List.all_eq_true.2 fun y hy => ?_⟩
    cases hM : isM y m.ch with
    | false => rfl
    | true =>
      cases hF : fitsB r y with
      | false => rfl
      | true =>
        exfalso
        have hT : tagged r.tg y = true := by
          unfold fitsB at hF
          have := (of_decide_eq_true hF).2.2.2
          unfold tagged
          simpa using this
        have hch : m.ch = ⟨r.key, m.fr, r.rk⟩ := by unfold Msg.ch; rw [e2, e4]
        unfold firstL at hf
        rw [cut_at hi, List.find?_append] at hf
        have hsome : ((l.take i).find? fun z => isM z ⟨r.key, m.fr, r.rk⟩ && tagged r.tg z).isSome = true := by
          rw [List.find?_isSome]
          exact ⟨y, hy, by rw [← hch, hM, hT]; rfl⟩
        obtain ⟨z, hz⟩ := Option.isSome_iff_exists.1 hsome
        rw [hz] at hf
        simp at hf
        subst hf
        have hzm := List.mem_of_find?_eq_some hz
        obtain ⟨j, hj, hjz⟩ := List.getElem_of_mem hzm
        have hnd := uniq_nodup hu
        rw [List.length_take] at hj
        obtain ⟨hil, hie⟩ := List.getElem?_eq_some_iff.1 hi
        have hne := (List.pairwise_iff_getElem.1 (List.nodup_iff_pairwise_ne.1 hnd)) j i (by omega) hil (by omega)
        rw [List.getElem_take] at hjz
        exact hne (hjz.trans hie.symm)
theorem rise_ext : ∀ {A B : List Msg}, (A.Pairwise fun a b => a.fr < b.fr) → (B.Pairwise fun a b => a.fr < b.fr) → (∀ m, m ∈ A ↔ m ∈ B) → A = B
  | [], [], _, _, _ => rfl
  | [], b :: B, _, _, h => absurd ((h b).2 List.mem_cons_self) List.not_mem_nil
  | a :: A, [], _, _, h => absurd ((h a).1 List.mem_cons_self) List.not_mem_nil
  | a :: A, b :: B, hA, hB, h => by
    have hA' := List.pairwise_cons.1 hA
    have hB' := List.pairwise_cons.1 hB
    have e : a = b := by
      rcases List.mem_cons.1 ((h a).1 List.mem_cons_self) with e | e
      · exact e
      · rcases List.mem_cons.1 ((h b).2 List.mem_cons_self) with e2 | e2
        · exact e2.symm
        · have := hB'.1 a e
          have := hA'.1 b e2
          omega
    subst e
    rw [rise_ext hA'.2 hB'.2 fun m => ⟨fun hm => ?_, fun hm => ?_⟩]
    · rcases List.mem_cons.1 ((h m).1 (List.mem_cons_of_mem _ hm)) with e | e
      · subst e
        have := hA'.1 m hm
        omega
      · exact e
    · rcases List.mem_cons.1 ((h m).2 (List.mem_cons_of_mem _ hm)) with e | e
      · subst e
        have := hB'.1 m hm
        omega
      · exact e
theorem left_mem {l LF : List Msg} (h : IsLeft l LF) {m : Msg} : m ∈ LF ↔ m ∈ l ∧ m.tk = false := by
  have hp := (isLeft_perm h).mem_iff (a := m)
  rw [hp]
  unfold untaken
  simp
theorem left_nodup {l LF : List Msg} (hu : Uniq l) (h : IsLeft l LF) : LF.Nodup := by
  rw [(isLeft_perm h).nodup_iff]
  unfold untaken
  exact (uniq_nodup hu).filter _
theorem its_iff {rl : List Rc} {l : List Msg} {r : Rc} {m : Msg} {pr : Bool} (hu : Uniq l) (hm : m ∈ l) (ht : m.tk = false) :
    itsB rl l r m pr = true ↔ (firstL l ⟨r.key, m.fr, r.rk⟩ r.tg = some m ∧ (r.pe = -1 ∨ r.pe = m.fr)) ∧ ∀ x ∈ waitG rl r.rk, (pr = true ∨ x.ca < r.ca) → fitsB x m = false := by
  rw [← its_first hu hm ht]
  unfold itsB
  rw [Bool.and_eq_true, Bool.and_eq_true, Bool.and_eq_true, ht]
  refine and_congr ?_ ?_
  · simp
  · rw [List.all_eq_true]
    refine forall_congr' fun x => forall_congr' fun hx => ?_
    cases fitsB x m <;> simp
theorem mem_freeL_iff {l : List Msg} {r : Rc} {ah : List Rc} {m : Msg} : m ∈ freeL l r ah ↔ leaveB ah m = true ∧ ∃ f ∈ sndL l r.key r.rk r.pe, firstL l ⟨r.key, f, r.rk⟩ r.tg = some m := by
  unfold freeL
  rw [mem_flt, mem_fsts, and_comm]
/-- What the document finds, sender by sender, is what the program finds. -/
theorem all_free {rl : List Rc} {l LF : List Msg} (hok : okG rl) (hu : Uniq l) (hmay : ∀ m ∈ l, mayM' m) (hL : IsLeft l LF) (r : Rc) (pr : Bool) :
    allG rl l LF r pr = freeL l r (if pr then rowL (lsOf rl) r.rk else (rowL (lsOf rl) r.rk).filter fun x => decide (x.ca < r.ca)) := by
  have hleave : ∀ m, (∀ x ∈ waitG rl r.rk, (pr = true ∨ x.ca < r.ca) → fitsB x m = false) ↔ leaveB (if pr then rowL (lsOf rl) r.rk else (rowL (lsOf rl) r.rk).filter fun x => decide (x.ca < r.ca)) m = true := fun m => by
    rw [← waitG_wts hok]
    unfold leaveB
    rw [List.all_eq_true]
    constructor
    · intro h x hx
      cases hd : x.dn with
      | true => rfl
      | false =>
        cases pr with
        | true =>
          have := h x (by unfold wts; exact List.mem_filter.2 ⟨by simpa using hx, by simp [hd]⟩) (.inl rfl)
          simp [this]
        | false =>
          have hx3 : x ∈ (rowL (lsOf rl) r.rk).filter (fun x => decide (x.ca < r.ca)) := hx
          have hx2 := List.mem_filter.1 hx3
          have := h x (by unfold wts; exact List.mem_filter.2 ⟨hx2.1, by simp [hd]⟩) (.inr (of_decide_eq_true hx2.2))
          simp [this]
    · intro h x hx hc
      have hx2 := wts_mem hx
      cases pr with
      | true =>
        have := h x (by simpa using hx2.1)
        simpa [hx2.2] using this
      | false =>
        have hlt : x.ca < r.ca := by rcases hc with e | e; cases e; exact e
        have := h x (by simpa using ⟨hx2.1, hlt⟩)
        simpa [hx2.2] using this
  refine rise_ext ?_ (free_rise _ _ _) fun m => ?_
  · unfold allG
    rw [List.pairwise_flatMap]
    refine ⟨fun f _ => ?_, (upto_rise 64).imp fun {f g} hfg x hx y hy => ?_⟩
    · have hnd := (left_nodup hu hL).filter (fun m => decide (m.fr = f) && itsB rl l r m pr)
      refine (List.nodup_iff_pairwise_ne.1 hnd).imp_of_mem fun {a b} ha hb hab => ?_
      exfalso
      have ha2 := List.mem_filter.1 ha
      have hb2 := List.mem_filter.1 hb
      rw [Bool.and_eq_true] at ha2 hb2
      have ha3 := left_mem hL |>.1 ha2.1
      have hb3 := left_mem hL |>.1 hb2.1
      have h1 := ((its_iff hu ha3.1 ha3.2).1 ha2.2.2).1.1
      have h2 := ((its_iff hu hb3.1 hb3.2).1 hb2.2.2).1.1
      rw [of_decide_eq_true ha2.2.1] at h1
      rw [of_decide_eq_true hb2.2.1] at h2
      rw [h1] at h2
      injection h2 with h2
      exact hab h2
    · have hx2 := List.mem_filter.1 hx
      have hy2 := List.mem_filter.1 hy
      rw [Bool.and_eq_true] at hx2 hy2
      rw [of_decide_eq_true hx2.2.1, of_decide_eq_true hy2.2.1]
      exact hfg
  · rw [mem_freeL_iff]
    unfold allG
    rw [List.mem_flatMap]
    constructor
    · rintro ⟨f, hf, hm⟩
      have hm2 := List.mem_filter.1 hm
      rw [Bool.and_eq_true] at hm2
      have hm3 := left_mem hL |>.1 hm2.1
      obtain ⟨⟨h1, h2⟩, h3⟩ := (its_iff hu hm3.1 hm3.2).1 hm2.2.2
      refine ⟨(hleave m).1 h3, m.fr, ?_, h1⟩
      unfold sndL
      split
      · unfold sendersL
        refine List.mem_filter.2 ⟨?_, ?_⟩
        · rw [of_decide_eq_true hm2.2.1]; exact hf
        · obtain ⟨q1, q2, _⟩ := first_mem h1
          unfold firstL
          rw [List.find?_isSome]
          exact ⟨m, q1, by rw [q2]; simp [tagged]⟩
      · rename_i hne
        rw [List.mem_singleton]
        rcases h2 with e | e
        · exact absurd e hne
        · exact e.symm
    · rintro ⟨h1, f, hf, h2⟩
      obtain ⟨q1, q2, q3⟩ := first_mem h2
      obtain ⟨e1, e2, e3, e4⟩ := isM_parts q2
      simp only at e2 e3 e4
      have h2' : firstL l ⟨r.key, m.fr, r.rk⟩ r.tg = some m := by rw [e3]; exact h2
      refine ⟨m.fr, ?_, List.mem_filter.2 ⟨(left_mem hL).2 ⟨q1, e1⟩, ?_⟩⟩
      · have := hmay m q1
        unfold mayM' mayM at this
        unfold upto
        refine List.mem_map.2 ⟨m.fr.toNat, List.mem_range.2 ?_, ?_⟩
        · have := this.2.1; simp only at this; omega
        · have := this.1; simp only at this; show ((m.fr.toNat : Nat) : Int) = m.fr; omega
      · rw [Bool.and_eq_true]
        refine ⟨decide_eq_true rfl, (its_iff hu q1 e1).2 ⟨⟨h2', ?_⟩, (hleave m).2 h1⟩⟩
        unfold sndL at hf
        split at hf
        · exact .inl (by assumption)
        · rw [List.mem_singleton] at hf
          exact .inr (by rw [e3, hf])
/-- Which messages may be a receive's, as the document finds them. -/
def mayG (rl : List Rc) (l LF : List Msg) (rk ca : Int) : List Msg := match atG rl rk ca with | none => [] | some r => if r.dn then [] else allG rl l LF r false
theorem mayG_in {rl : List Rc} {l LF : List Msg} (hok : okG rl) (hu : Uniq l) (hmay : ∀ m ∈ l, mayM' m) (hL : IsLeft l LF) {k : Nat} (hk : k < 64) (ca : Int) : mayL l (lsOf rl k) ca = mayG rl l LF k ca := by
  have h := atG_in rl k ca
  unfold mayG
  rw [← h]
  unfold mayL atL
  cases hf : (lsOf rl k).find? (fun x => decide (x.ca = ca)) with
  | none => rfl
  | some r =>
    have hr := lsOf_mem.1 (List.mem_of_find?_eq_some hf)
    have hc : r.ca = ca := by simpa using List.find?_some hf
    simp only
    rw [all_free hok hu hmay hL r false, hc, hr.2]
    have : rowL (lsOf rl) (k : Int) = lsOf rl k := by unfold rowL; rw [if_pos ⟨by omega, by omega⟩]; rfl
    rw [this]
    rfl
theorem mayG_out {rl : List Rc} {l LF : List Msg} (hok : okG rl) {rk : Int} (hr : rk < 0 ∨ 64 ≤ rk) (ca : Int) : mayG rl l LF rk ca = [] := by
  unfold mayG
  rw [atG_out hok hr]
/-- A receive is matched. -/
def setG (rl : List Rc) (rk ca fr sq : Int) : List Rc := rl.map fun x => if x.rk = rk ∧ x.ca = ca then { x with dn := true, fr := fr, sq := sq } else x
theorem setG_len (rl : List Rc) (rk ca fr sq : Int) : (setG rl rk ca fr sq).length = rl.length := by simp [setG]
theorem setG_ok {rl : List Rc} {rk ca fr sq : Int} (h : okG rl) : okG (setG rl rk ca fr sq) := fun y hy => by
  obtain ⟨x, hx, rfl⟩ := List.mem_map.1 hy
  split
  · exact h x hx
  · exact h x hx
theorem setG_ls (rl : List Rc) (k : Nat) (ca fr sq : Int) : updF (lsOf rl) k (setD (lsOf rl k) ca fr sq) = lsOf (setG rl k ca fr sq) := by
  refine funext fun j => ?_
  induction rl with
  | nil =>
    by_cases e : j = k
    · subst e; rw [updF_at]; rfl
    · rw [updF_ne _ _ _ e]; rfl
  | cons x t ih =>
    by_cases e : j = k
    · subst e
      rw [updF_at] at ih ⊢
      by_cases hr : x.rk = (j : Int)
      · have h1 : lsOf (x :: t) j = x :: lsOf t j := List.filter_cons_of_pos (by simpa using hr)
        rw [h1]
        show (if x.ca = ca then _ else x) :: setD (lsOf t j) ca fr sq = lsOf ((if x.rk = (j : Int) ∧ x.ca = ca then _ else x) :: setG t j ca fr sq) j
        rw [ih]
        by_cases hc : x.ca = ca
        · rw [if_pos hc, if_pos ⟨hr, hc⟩]
          exact (List.filter_cons_of_pos (by simpa using hr)).symm
        · rw [if_neg hc, if_neg (fun h => hc h.2)]
          exact (List.filter_cons_of_pos (by simpa using hr)).symm
      · have h1 : lsOf (x :: t) j = lsOf t j := List.filter_cons_of_neg (by simpa using hr)
        rw [h1, ih]
        show _ = lsOf ((if x.rk = (j : Int) ∧ x.ca = ca then _ else x) :: setG t j ca fr sq) j
        rw [if_neg (fun h => hr h.1)]
        exact (List.filter_cons_of_neg (by simpa using hr)).symm
    · rw [updF_ne _ _ _ e] at ih ⊢
      by_cases hr : x.rk = (j : Int)
      · have h1 : lsOf (x :: t) j = x :: lsOf t j := List.filter_cons_of_pos (by simpa using hr)
        rw [h1, ih]
        show _ = lsOf ((if x.rk = (k : Int) ∧ x.ca = ca then _ else x) :: setG t k ca fr sq) j
        rw [if_neg (fun h => e (by have := h.1; omega))]
        exact (List.filter_cons_of_pos (by simpa using hr)).symm
      · have h1 : lsOf (x :: t) j = lsOf t j := List.filter_cons_of_neg (by simpa using hr)
        rw [h1, ih]
        show _ = lsOf ((if x.rk = (k : Int) ∧ x.ca = ca then _ else x) :: setG t k ca fr sq) j
        split
        · exact (List.filter_cons_of_neg (by simpa using hr)).symm
        · exact (List.filter_cons_of_neg (by simpa using hr)).symm
end Po
end Go.Proofs.Ytonmojinijpneaa
end
section
/- The document's receives as they lie; its Fits, At, Waiting; rows of receives compared. -/
namespace Go.Proofs.Ytonmojinijpneaa
open Go Go.Joins Go.ChangeShapes Go.WideShapes Go.RowKit Go.Deep Go.Lib Go.Proofs.Ytonmojinijpneaa.Qu
set_option linter.unusedVariables false
set_option linter.unusedSimpArgs false
namespace Po
set_option maxRecDepth 100000 in
set_option maxHeartbeats 16000000 in
theorem fits_b (rkey : ByteArray) (rk rca pe tg rq : Int) (dn : Bool) (rfr rsq : Int) (mkey : ByteArray) (mfr mto mca mtg mva msz : Int) (mtk : Bool) (w : World) :
    Calls Try.prog 22 #[.agg #[.string rkey, .int .i64 rk, .int .i64 rca, .int .i64 pe, .int .i64 tg, .int .i64 rq, .bool dn, .int .i64 rfr, .int .i64 rsq], .agg #[.string mkey, .int .i64 mfr, .int .i64 mto, .int .i64 mca, .int .i64 mtg, .int .i64 mva, .int .i64 msz, .bool mtk]] w fun e w' => e = .returned (.bool (fitsB ⟨rkey, rk, rca, pe, tg, rq, dn, rfr, rsq⟩ ⟨mkey, mfr, mto, mca, mtg, mva, msz, mtk⟩)) ∧ Below w.heap.size w w' := by
  have HB := hide (((Below.refl w.heap.size w).alloc (Nat.le_refl _) (.cells #[.string rkey, .int .i64 rk, .int .i64 rca, .int .i64 pe, .int .i64 tg, .int .i64 rq, .bool dn, .int .i64 rfr, .int .i64 rsq] 35)).alloc (by simp) (.cells #[.string mkey, .int .i64 mfr, .int .i64 mto, .int .i64 mca, .int .i64 mtg, .int .i64 mva, .int .i64 msz, .bool mtk] 33))
  by_cases hk : rkey = mkey
  rotate_left
  · have hkb := Qu.str_ne hk
    have FB : fitsB ⟨rkey, rk, rca, pe, tg, rq, dn, rfr, rsq⟩ ⟨mkey, mfr, mto, mca, mtg, mva, msz, mtk⟩ = false := decide_eq_false (by
      intro h
      obtain ⟨e1, e2, e3, e4⟩ := h
      simp only at e1 e2 e3 e4
      first | exact absurd e1 hk | exact absurd e2 hr | (rcases e3 with e | e <;> first | exact absurd e hp | exact absurd e hf) | (rcases e4 with e | e <;> first | exact absurd e ht | exact absurd e hg))
    rw [FB]
    go_enter Try.func22, Try.ntmps22
    go_wp2
    go_ret
    exact ⟨rfl, HB.out⟩
  obtain rfl := hk
  have hks := Qu.str_eq rkey
  by_cases hr : rk = mto
  rotate_left
  · have hrb : (rk == mto) = false := by simp [hr]
    have FB : fitsB ⟨rkey, rk, rca, pe, tg, rq, dn, rfr, rsq⟩ ⟨rkey, mfr, mto, mca, mtg, mva, msz, mtk⟩ = false := decide_eq_false (by
      intro h
      obtain ⟨e1, e2, e3, e4⟩ := h
      simp only at e1 e2 e3 e4
      first | exact absurd e1 hk | exact absurd e2 hr | (rcases e3 with e | e <;> first | exact absurd e hp | exact absurd e hf) | (rcases e4 with e | e <;> first | exact absurd e ht | exact absurd e hg))
    rw [FB]
    go_enter Try.func22, Try.ntmps22
    go_wp2
    go_ret
    exact ⟨rfl, HB.out⟩
  obtain rfl := hr
  by_cases hp : pe = -1
  · obtain rfl := hp
    by_cases ht : tg = -1
    · obtain rfl := ht
      have FB : fitsB ⟨rkey, rk, rca, (-1), (-1), rq, dn, rfr, rsq⟩ ⟨rkey, mfr, rk, mca, mtg, mva, msz, mtk⟩ = true := decide_eq_true (by simp)
      rw [FB]
      go_enter Try.func22, Try.ntmps22
      go_wp2
      go_ret
      exact ⟨rfl, HB.out⟩
    have htb : (tg == (-1 : Int)) = false := by simp [ht]
    by_cases hg : tg = mtg
    · obtain rfl := hg
      have FB : fitsB ⟨rkey, rk, rca, (-1), tg, rq, dn, rfr, rsq⟩ ⟨rkey, mfr, rk, mca, tg, mva, msz, mtk⟩ = true := decide_eq_true (by simp)
      rw [FB]
      go_enter Try.func22, Try.ntmps22
      go_wp2
      go_ret
      exact ⟨rfl, HB.out⟩
    have hgb : (tg == mtg) = false := by simp [hg]
    have FB : fitsB ⟨rkey, rk, rca, (-1), tg, rq, dn, rfr, rsq⟩ ⟨rkey, mfr, rk, mca, mtg, mva, msz, mtk⟩ = false := decide_eq_false (by
      intro h
      obtain ⟨e1, e2, e3, e4⟩ := h
      simp only at e1 e2 e3 e4
      first | exact absurd e1 hk | exact absurd e2 hr | (rcases e3 with e | e <;> first | exact absurd e hp | exact absurd e hf) | (rcases e4 with e | e <;> first | exact absurd e ht | exact absurd e hg))
    rw [FB]
    go_enter Try.func22, Try.ntmps22
    go_wp2
    go_ret
    exact ⟨rfl, HB.out⟩
  have hpb : (pe == (-1 : Int)) = false := by simp [hp]
  by_cases hf : pe = mfr
  · obtain rfl := hf
    by_cases ht : tg = -1
    · obtain rfl := ht
      have FB : fitsB ⟨rkey, rk, rca, pe, (-1), rq, dn, rfr, rsq⟩ ⟨rkey, pe, rk, mca, mtg, mva, msz, mtk⟩ = true := decide_eq_true (by simp)
      rw [FB]
      go_enter Try.func22, Try.ntmps22
      go_wp2
      go_ret
      exact ⟨rfl, HB.out⟩
    have htb : (tg == (-1 : Int)) = false := by simp [ht]
    by_cases hg : tg = mtg
    · obtain rfl := hg
      have FB : fitsB ⟨rkey, rk, rca, pe, tg, rq, dn, rfr, rsq⟩ ⟨rkey, pe, rk, mca, tg, mva, msz, mtk⟩ = true := decide_eq_true (by simp)
      rw [FB]
      go_enter Try.func22, Try.ntmps22
      go_wp2
      go_ret
      exact ⟨rfl, HB.out⟩
    have hgb : (tg == mtg) = false := by simp [hg]
    have FB : fitsB ⟨rkey, rk, rca, pe, tg, rq, dn, rfr, rsq⟩ ⟨rkey, pe, rk, mca, mtg, mva, msz, mtk⟩ = false := decide_eq_false (by
      intro h
      obtain ⟨e1, e2, e3, e4⟩ := h
      simp only at e1 e2 e3 e4
      first | exact absurd e1 hk | exact absurd e2 hr | (rcases e3 with e | e <;> first | exact absurd e hp | exact absurd e hf) | (rcases e4 with e | e <;> first | exact absurd e ht | exact absurd e hg))
    rw [FB]
    go_enter Try.func22, Try.ntmps22
    go_wp2
    go_ret
    exact ⟨rfl, HB.out⟩
  have hfb : (pe == mfr) = false := by simp [hf]
  have FB : fitsB ⟨rkey, rk, rca, pe, tg, rq, dn, rfr, rsq⟩ ⟨rkey, mfr, rk, mca, mtg, mva, msz, mtk⟩ = false := decide_eq_false (by
    intro h
    obtain ⟨e1, e2, e3, e4⟩ := h
    simp only at e1 e2 e3 e4
    first | exact absurd e1 hk | exact absurd e2 hr | (rcases e3 with e | e <;> first | exact absurd e hp | exact absurd e hf) | (rcases e4 with e | e <;> first | exact absurd e ht | exact absurd e hg))
  rw [FB]
  go_enter Try.func22, Try.ntmps22
  go_wp2
  go_ret
  exact ⟨rfl, HB.out⟩
/-- Where the document's queue lies. -/
def df (p : Nat) (A : Option Addr) : List Nat := p :: (A.map (·.block)).toList
def DAt (w : World) (p : Nat) (A : Option Addr) (l : List Rc) : Prop := ∃ cap : Nat, Blk w p 49 #[.slice A l.length cap] ∧ w.ownsRow 0 35 9 (.slice A l.length cap) l.length (rcCs l)
theorem DAt.lt {w : World} {p : Nat} {A : Option Addr} {l : List Rc} (h : DAt w p A l) : ∀ b ∈ df p A, b < w.heap.size := fun b hb => by
  obtain ⟨cap, h1, h2⟩ := h
  unfold df at hb
  rcases List.mem_cons.1 hb with rfl | hb
  · exact h1.lt
  · cases A with
    | none => simp at hb
    | some a =>
      have : b = a.block := by simpa using hb
      rw [this]
      exact (own_inA h2 a rfl).1
theorem DAt.keep {w w' : World} {p : Nat} {A : Option Addr} {l : List Rc} (h : DAt w p A l) (hk : ∀ b ∈ df p A, w'.heap[b]? = w.heap[b]?) : DAt w' p A l := by
  obtain ⟨cap, h1, h2⟩ := h
  exact ⟨cap, (hk _ List.mem_cons_self).trans h1, own_keepA h2 fun a ha => hk _ (by unfold df; rw [ha]; simp)⟩
theorem DAt.below {w w' : World} {p : Nat} {A : Option Addr} {l : List Rc} (h : DAt w p A l) (hb : Below w.heap.size w w') : DAt w' p A l := h.keep fun b hm => hb.block b (h.lt b hm)
theorem DAt.ch {S : List Nat} {w w' : World} {p : Nat} {A : Option Addr} {l : List Rc} (h : DAt w p A l) (hb : Ch S w w') (hS : ∀ b ∈ S, ¬ b ∈ df p A) : DAt w' p A l := h.keep fun b hm => hb.block b (h.lt b hm) fun hs => hS b hs hm
/-- How the document's queue goes on. -/
def GoesD (w : World) (p : Nat) (A : Option Addr) (l' : List Rc) (w' : World) : Prop := ∃ A', DAt w' p A' l' ∧ Ch (df p A) w w' ∧ ∀ b ∈ df p A', b ∈ df p A ∨ w.heap.size ≤ b
theorem GoesD.same {w w' : World} {p : Nat} {A : Option Addr} {l : List Rc} (h : DAt w p A l) (hb : Below w.heap.size w w') : GoesD w p A l w' := ⟨A, h.below hb, Ch.of_below hb, fun b hb => .inl hb⟩
/-- A message more: the worlds. -/
theorem goes_postD {w w1 w7 : World} {p : Nat} {A A2 : Option Addr} {cap c2 : Nat} {l : List Rc} {m : Rc} (hb : Blk w1 p 49 #[.slice A l.length cap]) (hown : w1.ownsRow 0 35 9 (.slice A l.length cap) l.length (rcCs l))
    (hbel : Below w.heap.size w w1) (hgr : w1.grownBy w7 (Value.slice A l.length cap).ownBlock) (ho : w7.ownsRow 0 35 9 (.slice A2 (l.length + 1) c2) (l.length + 1) (rcCs l ++ rcC m))
    (hob : (Value.slice A2 (l.length + 1) c2).ownBlock = (Value.slice A l.length cap).ownBlock ∨ ∃ g, (Value.slice A2 (l.length + 1) c2).ownBlock = some g ∧ w1.heap.size ≤ g) :
    (Blk w7 p 49 #[.slice A l.length cap]) ∧ GoesD w p A (l ++ [m]) (w7.setCell ⟨p, 0, none⟩ (.slice A2 (l.length + 1) c2)) := by
  have hpA : ∀ a, A = some a → a.block ≠ p := fun a ha e => by
    obtain ⟨_, cs, hc⟩ := own_inA hown a ha
    rw [e] at hc
    have := hc.symm.trans hb
    injection this with e1
    injection e1 with _ e2
    exact absurd e2 (by decide)
  have hch := ch_push (S := df p A) hgr fun a ha => by unfold df; rw [ha]; simp
  have hp7 : Blk w7 p 49 #[.slice A l.length cap] := (hgr.block p hb.lt fun e => by
    cases A with
    | none => simp [Value.ownBlock] at e
    | some a =>
      have : a.block = p := by simpa [Value.ownBlock] using e.symm
      exact hpA a rfl this).trans hb
  have hp2 : ∀ a, A2 = some a → a.block ≠ p := fun a ha e => by
    obtain ⟨_, cs, hc⟩ := own_inA ho a ha
    rw [e] at hc
    have := hc.symm.trans hp7
    injection this with e1
    injection e1 with _ e2
    exact absurd e2 (by decide)
  refine ⟨hp7, A2, ⟨c2, ?_, ?_⟩, (Ch.of_below hbel).trans (hch.trans (Ch.set_ w7 _ (by unfold df; simp))), fun b hb2 => ?_⟩
  · rw [List.length_append, List.length_singleton]
    have h1 := hp7.set_ 0 (.slice A2 (l.length + 1) c2)
    simpa only [List.setIfInBounds_toArray, List.set_cons_zero] using h1
  · rw [List.length_append, List.length_singleton, rcCs_app]
    exact own_setA (by simpa [rcCs] using ho) _ hp2
  · unfold df at hb2 ⊢
    rcases List.mem_cons.1 hb2 with rfl | hb2
    · exact .inl List.mem_cons_self
    · cases A2 with
      | none => simp at hb2
      | some a2 =>
        have e2 : b = a2.block := by simpa using hb2
        rcases hob with e | ⟨g, e, hg⟩
        · cases A with
          | none => simp [Value.ownBlock] at e
          | some a =>
            have e3 : a2.block = a.block := by simpa [Value.ownBlock] using e
            exact .inl (by rw [e2, e3]; simp)
        · have e3 : a2.block = g := by simpa [Value.ownBlock] using e
          exact .inr (by have := hbel.size; omega)
theorem DAt.cell0 {w : World} {p : Nat} {A : Option Addr} {l : List Rc} (h : DAt w p A l) : ∃ cap, w.cell? ⟨p, 0, none⟩ = some (.slice A l.length cap) ∧ RRow w A l ∧ l.length ≤ cap := by
  obtain ⟨cap, h1, h2⟩ := h
  exact ⟨cap, h1.cell 0, RRow.of_own h2 rfl, own_cap h2⟩
theorem atG_step {l : List Rc} {rk ca : Int} {i : Nat} {m : Rc} (hm : l[i]? = some m) (h : ∀ x ∈ l.take i, ¬ (x.rk = rk ∧ x.ca = ca)) : (m.rk = rk ∧ m.ca = ca → atG l rk ca = some m) ∧ (¬ (m.rk = rk ∧ m.ca = ca) → ∀ x ∈ l.take (i + 1), ¬ (x.rk = rk ∧ x.ca = ca)) := by
  refine ⟨fun he => ?_, fun he x hx => ?_⟩
  · unfold atG
    refine find_take hm (by simp [he]) fun y hy => ?_
    have := h y hy
    simpa using this
  · obtain ⟨h1, e1⟩ := List.getElem?_eq_some_iff.1 hm
    rw [List.take_succ_eq_append_getElem h1] at hx
    rcases List.mem_append.1 hx with hx | hx
    · exact h x hx
    · rw [List.mem_singleton, e1] at hx
      rw [hx]
      exact he
theorem atG_end {l : List Rc} {rk ca : Int} (h : ∀ x ∈ l, ¬ (x.rk = rk ∧ x.ca = ca)) : atG l rk ca = none := by
  unfold atG
  refine List.find?_eq_none.2 fun x hx => ?_
  have := h x hx
  simpa using this
set_option maxRecDepth 100000 in
set_option maxHeartbeats 16000000 in
theorem at_b {w : World} {p : Nat} {A : Option Addr} {l : List Rc} (h : DAt w p A l) (rk ca : Int) (hl : l.length ≤ 1000) :
    Calls Try.prog 14 #[.pointer (some ⟨p, 0, none⟩), .int .i64 rk, .int .i64 ca] w fun e w' => e = .returned (atV (atG l rk ca)) ∧ Below w.heap.size w w' := by
  have bx := (Below.refl w.heap.size w).alloc (Nat.le_refl _) (.cells #[.string ⟨#[]⟩, .int .i64 0, .int .i64 0, .int .i64 0, .int .i64 0, .int .i64 0, .bool false, .int .i64 0, .int .i64 0] 35)
  have kx := Blk.new w 35 #[.string ⟨#[]⟩, .int .i64 0, .int .i64 0, .int .i64 0, .int .i64 0, .int .i64 0, .bool false, .int .i64 0, .int .i64 0]
  obtain ⟨wX, hwX⟩ : ∃ z, w.alloc (.cells #[.string ⟨#[]⟩, .int .i64 0, .int .i64 0, .int .i64 0, .int .i64 0, .int .i64 0, .bool false, .int .i64 0, .int .i64 0] 35) = z := ⟨_, rfl⟩
  obtain ⟨X, hX⟩ : ∃ z, w.heap.size = z := ⟨_, rfl⟩
  rw [hwX] at bx kx
  rw [hX] at kx
  obtain ⟨cap, c0, hrr, hcap⟩ := (h.below bx).cell0
  obtain ⟨n, hn⟩ : ∃ n, l.length = n := ⟨_, rfl⟩
  rw [hn] at c0 hl hcap
  have HR := hide hrr
  have HN := hide hn
  have HNL := hide hl
  have HB := hide bx
  have KX := hide kx
  have HX := hide hX
  have HWX := hide hwX
  clear h bx kx hX hwX hrr hn hl
  go_enter Try.func14, Try.ntmps14
  go_upto_region 1 with (fail)
  rw [HWX.out, HX.out]
  go_wp2_with fail
  go_loopw [8] (fun v8 wr => ∃ i : Nat, i ≤ n ∧ v8 = .int .i64 i ∧ wX = wr ∧ Hid (∀ x ∈ l.take i, ¬ (x.rk = rk ∧ x.ca = ca))) (fun v8 _ => n - (RowKit.intOf v8).toNat)
  case atStart => exact ⟨0, Nat.zero_le _, rfl, rfl, hide (fun x hx => absurd hx (by simp))⟩
  case round =>
    obtain ⟨i, hi, rfl, hwr, HNO⟩ := hrel
    rename World => wr
    subst hwr
    have hnl := HNL.out
    by_cases hlt : i < n
    rotate_left
    · have hltI : ¬ (i : Int) < (n : Int) := by omega
      have FN : Hid (atG l rk ca = none) := hide (atG_end (by have h := HNO.out; rwa [List.take_of_length_le (by rw [HN.out]; omega)] at h))
      have z0 : wX.cell? ⟨X, 0, none⟩ = some (.string ⟨#[]⟩) := KX.out.cell 0
      have f0 := KX.out.frozen 0
      have z1 : wX.cell? ⟨X, 1, none⟩ = some (.int .i64 0) := KX.out.cell 1
      have f1 := KX.out.frozen 1
      have z2 : wX.cell? ⟨X, 2, none⟩ = some (.int .i64 0) := KX.out.cell 2
      have f2 := KX.out.frozen 2
      have z3 : wX.cell? ⟨X, 3, none⟩ = some (.int .i64 0) := KX.out.cell 3
      have f3 := KX.out.frozen 3
      have z4 : wX.cell? ⟨X, 4, none⟩ = some (.int .i64 0) := KX.out.cell 4
      have f4 := KX.out.frozen 4
      have z5 : wX.cell? ⟨X, 5, none⟩ = some (.int .i64 0) := KX.out.cell 5
      have f5 := KX.out.frozen 5
      have z6 : wX.cell? ⟨X, 6, none⟩ = some (.bool false) := KX.out.cell 6
      have f6 := KX.out.frozen 6
      have z7 : wX.cell? ⟨X, 7, none⟩ = some (.int .i64 0) := KX.out.cell 7
      have f7 := KX.out.frozen 7
      have z8 : wX.cell? ⟨X, 8, none⟩ = some (.int .i64 0) := KX.out.cell 8
      have f8 := KX.out.frozen 8
      have k9 := put9 KX.out (.string ⟨#[]⟩) (.int .i64 0) (.int .i64 0) (.int .i64 0) (.int .i64 0) (.int .i64 0) (.bool false) (.int .i64 0) (.int .i64 0)
      have b9 := bel9 HB.out (show w.heap.size ≤ X by have := HX.out; omega) (.string ⟨#[]⟩) (.int .i64 0) (.int .i64 0) (.int .i64 0) (.int .i64 0) (.int .i64 0) (.bool false) (.int .i64 0) (.int .i64 0)
      obtain ⟨w9, hw9⟩ : ∃ z, (((((((((wX.setCell ⟨X, 0, none⟩ (.string ⟨#[]⟩)).setCell ⟨X, 1, none⟩ (.int .i64 0)).setCell ⟨X, 2, none⟩ (.int .i64 0)).setCell ⟨X, 3, none⟩ (.int .i64 0)).setCell ⟨X, 4, none⟩ (.int .i64 0)).setCell ⟨X, 5, none⟩ (.int .i64 0)).setCell ⟨X, 6, none⟩ (.bool false)).setCell ⟨X, 7, none⟩ (.int .i64 0)).setCell ⟨X, 8, none⟩ (.int .i64 0)) = z := ⟨_, rfl⟩
      rw [hw9] at k9 b9
      have u0 : w9.cell? ⟨X, 0, none⟩ = some (.string ⟨#[]⟩) := k9.cell 0
      have u1 : w9.cell? ⟨X, 1, none⟩ = some (.int .i64 0) := k9.cell 1
      have u2 : w9.cell? ⟨X, 2, none⟩ = some (.int .i64 0) := k9.cell 2
      have u3 : w9.cell? ⟨X, 3, none⟩ = some (.int .i64 0) := k9.cell 3
      have u4 : w9.cell? ⟨X, 4, none⟩ = some (.int .i64 0) := k9.cell 4
      have u5 : w9.cell? ⟨X, 5, none⟩ = some (.int .i64 0) := k9.cell 5
      have u6 : w9.cell? ⟨X, 6, none⟩ = some (.bool false) := k9.cell 6
      have u7 : w9.cell? ⟨X, 7, none⟩ = some (.int .i64 0) := k9.cell 7
      have u8 : w9.cell? ⟨X, 8, none⟩ = some (.int .i64 0) := k9.cell 8
      have HB9 := hide b9
      clear k9 b9
      go_wp2_with fail
      exact bodyPost_ret (v := .tuple #[.agg #[.string ⟨#[]⟩, .int .i64 0, .int .i64 0, .int .i64 0, .int .i64 0, .int .i64 0, .bool false, .int .i64 0, .int .i64 0], .bool false]) (by simp [results, Try.results14, go_sem, hw9, u0, u1, u2, u3, u4, u5, u6, u7, u8]) rfl ⟨by rw [FN.out]; rfl, by first | exact HB9.out | (rw [← hw9] at HB9; exact HB9.out) | (subst hw9; exact HB9.out)⟩
    have hltI : (i : Int) < (n : Int) := by omega
    obtain ⟨⟨mk, mr, mc, mp, mt, mq, md, mf, ms⟩, hm⟩ : ∃ m, l[i]? = some m := ⟨_, List.getElem?_eq_getElem (by rw [HN.out]; exact hlt)⟩
    obtain ⟨g, rfl, hg, hit⟩ := HR.out.it i _ hm
    have n0 : wX.cell? ⟨g, i * 9, none⟩ = some (.string mk) := hit 0 _ rfl
    have n1 : wX.cell? ⟨g, i * 9 + 1, none⟩ = some (.int .i64 mr) := hit 1 _ rfl
    have n2 : wX.cell? ⟨g, i * 9 + 2, none⟩ = some (.int .i64 mc) := hit 2 _ rfl
    have n3 : wX.cell? ⟨g, i * 9 + 3, none⟩ = some (.int .i64 mp) := hit 3 _ rfl
    have n4 : wX.cell? ⟨g, i * 9 + 4, none⟩ = some (.int .i64 mt) := hit 4 _ rfl
    have n5 : wX.cell? ⟨g, i * 9 + 5, none⟩ = some (.int .i64 mq) := hit 5 _ rfl
    have n6 : wX.cell? ⟨g, i * 9 + 6, none⟩ = some (.bool md) := hit 6 _ rfl
    have n7 : wX.cell? ⟨g, i * 9 + 7, none⟩ = some (.int .i64 mf) := hit 7 _ rfl
    have n8 : wX.cell? ⟨g, i * 9 + 8, none⟩ = some (.int .i64 ms) := hit 8 _ rfl
    have HST := hide (atG_step hm HNO.out)
    have HLT := hide hlt
    clear hit hm hg hlt
    by_cases h1 : mr = rk
    rotate_left
    · have t1 : (mr == rk) = false := by simpa using h1
      have HNO1 := hide (HST.out.2 (fun h => h1 h.1))
      clear h1 HST
      go_wp2_with fail
      go_roundw
      case rel => exact ⟨i + 1, HLT.out, by go_num, by first | rfl | trivial, HNO1⟩
      case measure => have := HLT.out; simp [RowKit.intOf] <;> omega
    by_cases h2 : mc = ca
    rotate_left
    · have t1 : (mr == rk) = true := by simpa using h1
      have t2 : (mc == ca) = false := by simpa using h2
      have HNO1 := hide (HST.out.2 (fun h => h2 h.2))
      clear h1 h2 HST
      go_wp2_with fail
      go_roundw
      case rel => exact ⟨i + 1, HLT.out, by go_num, by first | rfl | trivial, HNO1⟩
      case measure => have := HLT.out; simp [RowKit.intOf] <;> omega
    have FS := hide (HST.out.1 ⟨h1, h2⟩)
    have t1 : (mr == rk) = true := by simpa using h1
    have t2 : (mc == ca) = true := by simpa using h2
    clear h1 h2 HST
    have z0 : wX.cell? ⟨X, 0, none⟩ = some (.string ⟨#[]⟩) := KX.out.cell 0
    have f0 := KX.out.frozen 0
    have z1 : wX.cell? ⟨X, 1, none⟩ = some (.int .i64 0) := KX.out.cell 1
    have f1 := KX.out.frozen 1
    have z2 : wX.cell? ⟨X, 2, none⟩ = some (.int .i64 0) := KX.out.cell 2
    have f2 := KX.out.frozen 2
    have z3 : wX.cell? ⟨X, 3, none⟩ = some (.int .i64 0) := KX.out.cell 3
    have f3 := KX.out.frozen 3
    have z4 : wX.cell? ⟨X, 4, none⟩ = some (.int .i64 0) := KX.out.cell 4
    have f4 := KX.out.frozen 4
    have z5 : wX.cell? ⟨X, 5, none⟩ = some (.int .i64 0) := KX.out.cell 5
    have f5 := KX.out.frozen 5
    have z6 : wX.cell? ⟨X, 6, none⟩ = some (.bool false) := KX.out.cell 6
    have f6 := KX.out.frozen 6
    have z7 : wX.cell? ⟨X, 7, none⟩ = some (.int .i64 0) := KX.out.cell 7
    have f7 := KX.out.frozen 7
    have z8 : wX.cell? ⟨X, 8, none⟩ = some (.int .i64 0) := KX.out.cell 8
    have f8 := KX.out.frozen 8
    have k9 := put9 KX.out (.string mk) (.int .i64 mr) (.int .i64 mc) (.int .i64 mp) (.int .i64 mt) (.int .i64 mq) (.bool md) (.int .i64 mf) (.int .i64 ms)
    have b9 := bel9 HB.out (show w.heap.size ≤ X by have := HX.out; omega) (.string mk) (.int .i64 mr) (.int .i64 mc) (.int .i64 mp) (.int .i64 mt) (.int .i64 mq) (.bool md) (.int .i64 mf) (.int .i64 ms)
    obtain ⟨w9, hw9⟩ : ∃ z, (((((((((wX.setCell ⟨X, 0, none⟩ (.string mk)).setCell ⟨X, 1, none⟩ (.int .i64 mr)).setCell ⟨X, 2, none⟩ (.int .i64 mc)).setCell ⟨X, 3, none⟩ (.int .i64 mp)).setCell ⟨X, 4, none⟩ (.int .i64 mt)).setCell ⟨X, 5, none⟩ (.int .i64 mq)).setCell ⟨X, 6, none⟩ (.bool md)).setCell ⟨X, 7, none⟩ (.int .i64 mf)).setCell ⟨X, 8, none⟩ (.int .i64 ms)) = z := ⟨_, rfl⟩
    rw [hw9] at k9 b9
    have u0 : w9.cell? ⟨X, 0, none⟩ = some (.string mk) := k9.cell 0
    have u1 : w9.cell? ⟨X, 1, none⟩ = some (.int .i64 mr) := k9.cell 1
    have u2 : w9.cell? ⟨X, 2, none⟩ = some (.int .i64 mc) := k9.cell 2
    have u3 : w9.cell? ⟨X, 3, none⟩ = some (.int .i64 mp) := k9.cell 3
    have u4 : w9.cell? ⟨X, 4, none⟩ = some (.int .i64 mt) := k9.cell 4
    have u5 : w9.cell? ⟨X, 5, none⟩ = some (.int .i64 mq) := k9.cell 5
    have u6 : w9.cell? ⟨X, 6, none⟩ = some (.bool md) := k9.cell 6
    have u7 : w9.cell? ⟨X, 7, none⟩ = some (.int .i64 mf) := k9.cell 7
    have u8 : w9.cell? ⟨X, 8, none⟩ = some (.int .i64 ms) := k9.cell 8
    have HB9 := hide b9
    clear k9 b9
    go_wp2_with fail
    exact bodyPost_ret (v := .tuple #[.agg #[.string mk, .int .i64 mr, .int .i64 mc, .int .i64 mp, .int .i64 mt, .int .i64 mq, .bool md, .int .i64 mf, .int .i64 ms], .bool true]) (by simp [results, Try.results14, go_sem, hw9, u0, u1, u2, u3, u4, u5, u6, u7, u8]) rfl ⟨by rw [FS.out]; rfl, by first | exact HB9.out | (rw [← hw9] at HB9; exact HB9.out) | (subst hw9; exact HB9.out)⟩
theorem waitG_take {l : List Rc} {rk : Int} {i : Nat} {m : Rc} (hm : l[i]? = some m) : waitG (l.take (i + 1)) rk = waitG (l.take i) rk ++ if (m.rk = rk ∧ m.dn = false) then [m] else [] := by
  obtain ⟨h1, e1⟩ := List.getElem?_eq_some_iff.1 hm
  unfold waitG
  rw [List.take_succ_eq_append_getElem h1, List.filter_append, e1]
  congr 1
  by_cases h : m.rk = rk ∧ m.dn = false
  · rw [if_pos h, List.filter_cons_of_pos (by simp [h]), List.filter_nil]
  · rw [if_neg h, List.filter_cons_of_neg (by simpa using h), List.filter_nil]
set_option maxRecDepth 100000 in
set_option maxHeartbeats 16000000 in
theorem waiting_b {w : World} {p : Nat} {A : Option Addr} {l : List Rc} (h : DAt w p A l) (rk : Int) (hl : l.length ≤ 1000) :
    Calls Try.prog 17 #[.pointer (some ⟨p, 0, none⟩), .int .i64 rk] w fun e w' => ∃ A1 c1, e = .returned (.slice A1 (waitG l rk).length c1) ∧ w'.ownsRow w.heap.size 35 9 (.slice A1 (waitG l rk).length c1) (waitG l rk).length (rcCs (waitG l rk)) ∧ Below w.heap.size w w' := by
  obtain ⟨n, hn⟩ : ∃ n, l.length = n := ⟨_, rfl⟩
  rw [hn] at hl
  have HD := hide h
  have HN := hide hn
  have HNL := hide hl
  have b0 := hide (Below.refl w.heap.size w)
  clear h hn hl
  go_enter Try.func17, Try.ntmps17
  go_wp2_with fail
  go_loopw [5, 6] (fun v5 v6 wr => ∃ (i : Nat) (A1 : Option Addr) (c1 : Nat), i ≤ n ∧ v6 = .int .i64 i ∧ v5 = .slice A1 (waitG (l.take i) rk).length c1 ∧ Hid (wr.ownsRow w.heap.size 35 9 (.slice A1 (waitG (l.take i) rk).length c1) (waitG (l.take i) rk).length (rcCs (waitG (l.take i) rk))) ∧ Hid (Below w.heap.size w wr)) (fun _ v6 _ => n - (RowKit.intOf v6).toNat)
  case atStart => exact ⟨0, none, 0, Nat.zero_le _, rfl, rfl, hide ⟨rfl, .inl ⟨rfl, rfl⟩⟩, b0⟩
  case round =>
    obtain ⟨i, A1, c1, hi, rfl, rfl, HOW, HB⟩ := hrel
    rename World => wr
    have hnl := HNL.out
    obtain ⟨cap, c0, hrr, hcap⟩ := (HD.out.below HB.out).cell0
    rw [HN.out] at c0 hcap
    by_cases hlt : i < n
    rotate_left
    · have hltI : ¬ (i : Int) < (n : Int) := by omega
      have HT : l.take i = l := List.take_of_length_le (by rw [HN.out]; omega)
      rw [HT] at HOW ⊢
      clear HT hlt hrr
      go_wp2_with fail
      go_ret
      exact ⟨A1, c1, rfl, HOW.out, HB.out⟩
    have hltI : (i : Int) < (n : Int) := by omega
    obtain ⟨⟨mk, mr, mc, mp, mt, mq, md, mf, ms⟩, hm⟩ : ∃ m, l[i]? = some m := ⟨_, List.getElem?_eq_getElem (by rw [HN.out]; exact hlt)⟩
    obtain ⟨g, rfl, hg, hit⟩ := hrr.it i _ hm
    have n0 : wr.cell? ⟨g, i * 9, none⟩ = some (.string mk) := hit 0 _ rfl
    have n1 : wr.cell? ⟨g, i * 9 + 1, none⟩ = some (.int .i64 mr) := hit 1 _ rfl
    have n2 : wr.cell? ⟨g, i * 9 + 2, none⟩ = some (.int .i64 mc) := hit 2 _ rfl
    have n3 : wr.cell? ⟨g, i * 9 + 3, none⟩ = some (.int .i64 mp) := hit 3 _ rfl
    have n4 : wr.cell? ⟨g, i * 9 + 4, none⟩ = some (.int .i64 mt) := hit 4 _ rfl
    have n5 : wr.cell? ⟨g, i * 9 + 5, none⟩ = some (.int .i64 mq) := hit 5 _ rfl
    have n6 : wr.cell? ⟨g, i * 9 + 6, none⟩ = some (.bool md) := hit 6 _ rfl
    have n7 : wr.cell? ⟨g, i * 9 + 7, none⟩ = some (.int .i64 mf) := hit 7 _ rfl
    have n8 : wr.cell? ⟨g, i * 9 + 8, none⟩ = some (.int .i64 ms) := hit 8 _ rfl
    have HST := hide (waitG_take (rk := rk) hm)
    have HLT := hide hlt
    have HWL : Hid ((waitG (l.take i) rk).length ≤ 1000) := hide (Nat.le_trans (List.length_filter_le _ _) (by rw [List.length_take]; omega))
    clear hit hm hg hlt hrr
    by_cases h1 : mr = rk
    rotate_left
    · have t1 : (mr == rk) = false := by simpa using h1
      have HS1 : Hid (waitG (l.take (i + 1)) rk = waitG (l.take i) rk) := hide (by rw [HST.out, if_neg (fun h => h1 h.1), List.append_nil])
      clear h1 HST
      go_wp2_with fail
      go_roundw
      case rel => exact ⟨i + 1, A1, c1, HLT.out, by go_num, by rw [HS1.out], by rw [HS1.out]; exact HOW, HB⟩
      case measure => have := HLT.out; simp [RowKit.intOf] <;> omega
    have t1 : (mr == rk) = true := by simpa using h1
    cases md with
    | true =>
      have HS1 : Hid (waitG (l.take (i + 1)) rk = waitG (l.take i) rk) := hide (by rw [HST.out, if_neg (fun h => by cases h.2), List.append_nil])
      clear h1 HST
      go_wp2_with fail
      go_roundw
      case rel => exact ⟨i + 1, A1, c1, HLT.out, by go_num, by rw [HS1.out], by rw [HS1.out]; exact HOW, HB⟩
      case measure => have := HLT.out; simp [RowKit.intOf] <;> omega
    | false =>
      have HS1 : Hid (waitG (l.take (i + 1)) rk = waitG (l.take i) rk ++ [⟨mk, mr, mc, mp, mt, mq, false, mf, ms⟩]) := hide (by rw [HST.out, if_pos ⟨h1, rfl⟩])
      clear h1 HST
      obtain ⟨A2, c2, w2, hrun, hown, hgr, _⟩ := push_r wr w.heap.size A1 c1 _ _ ⟨mk, mr, mc, mp, mt, mq, false, mf, ms⟩ HOW.out HB.out.size (by have := HWL.out; omega)
      have HB2 := hide (HB.out.grown hgr HB.out.size fun k e => (own_block HOW.out e).1)
      have HLN := hide (show (waitG (l.take (i + 1)) rk).length = (waitG (l.take i) rk).length + 1 by rw [HS1.out]; simp)
      have OW2 := hide (show w2.ownsRow w.heap.size 35 9 (.slice A2 ((waitG (l.take i) rk).length + 1) c2) ((waitG (l.take i) rk).length + 1) (rcCs (waitG (l.take (i + 1)) rk)) by
        rw [HS1.out, rcCs_app]
        simpa [rcCs] using hown)
      have RUN := hide hrun
      clear hrun hown hgr
      go_wp2_with (at_builtin; refine Lib.wpList_append_run _ rfl _ _ 42 42 rfl _ _ rfl rfl _ _ RUN.out ?_)
      go_roundw
      case rel => exact ⟨i + 1, A2, c2, HLT.out, by go_num, by rw [HLN.out], by rw [HLN.out]; exact OW2, HB2⟩
      case measure => have := HLT.out; simp [RowKit.intOf] <;> omega
set_option maxRecDepth 100000 in
set_option maxHeartbeats 16000000 in
/-- Two rows of the same receives are the same. -/
theorem sameR_b {w : World} (A B : Option Addr) (ca cb n : Nat) (r : List Rc) (hA : RRow w A r) (hB : RRow w B r) (hn : r.length = n) (hl : n ≤ 1000) :
    Calls Try.prog 15 #[.slice A n ca, .slice B n cb] w fun e w' => e = .returned (.bool true) ∧ Below w.heap.size w w' := by
  have HA := hide hA
  have HB := hide hB
  have HN := hide hn
  have HNL := hide hl
  have b0 := hide (Below.refl w.heap.size w)
  clear hA hB hn
  go_enter Try.func15, Try.ntmps15
  go_wp2_with fail
  go_loopw [5] (fun v5 wr => ∃ i : Nat, i ≤ n ∧ v5 = .int .i64 i ∧ Hid (Below w.heap.size w wr)) (fun v5 _ => n - (RowKit.intOf v5).toNat)
  case atStart => exact ⟨0, Nat.zero_le _, rfl, b0⟩
  case round =>
    obtain ⟨i, hi, rfl, HBR⟩ := hrel
    rename World => wr
    by_cases hlt : i < n
    rotate_left
    · have hltI : ¬ (i : Int) < (n : Int) := by omega
      go_wp2_with fail
      go_ret
      exact ⟨rfl, HBR.out⟩
    have hltI : (i : Int) < (n : Int) := by omega
    obtain ⟨⟨mk, mr, mc, mp, mt, mq, md, mf, ms⟩, hm⟩ : ∃ m, r[i]? = some m := ⟨_, List.getElem?_eq_getElem (by rw [HN.out]; exact hlt)⟩
    obtain ⟨g, rfl, hg, hit⟩ := (HA.out.below HBR.out).it i _ hm
    obtain ⟨g2, rfl, hg2, hit2⟩ := (HB.out.below HBR.out).it i _ hm
    have n0 : wr.cell? ⟨g, i * 9, none⟩ = some (.string mk) := hit 0 _ rfl
    have n1 : wr.cell? ⟨g, i * 9 + 1, none⟩ = some (.int .i64 mr) := hit 1 _ rfl
    have n2 : wr.cell? ⟨g, i * 9 + 2, none⟩ = some (.int .i64 mc) := hit 2 _ rfl
    have n3 : wr.cell? ⟨g, i * 9 + 3, none⟩ = some (.int .i64 mp) := hit 3 _ rfl
    have n4 : wr.cell? ⟨g, i * 9 + 4, none⟩ = some (.int .i64 mt) := hit 4 _ rfl
    have n5 : wr.cell? ⟨g, i * 9 + 5, none⟩ = some (.int .i64 mq) := hit 5 _ rfl
    have n6 : wr.cell? ⟨g, i * 9 + 6, none⟩ = some (.bool md) := hit 6 _ rfl
    have n7 : wr.cell? ⟨g, i * 9 + 7, none⟩ = some (.int .i64 mf) := hit 7 _ rfl
    have n8 : wr.cell? ⟨g, i * 9 + 8, none⟩ = some (.int .i64 ms) := hit 8 _ rfl
    have o0 : wr.cell? ⟨g2, i * 9, none⟩ = some (.string mk) := hit2 0 _ rfl
    have o1 : wr.cell? ⟨g2, i * 9 + 1, none⟩ = some (.int .i64 mr) := hit2 1 _ rfl
    have o2 : wr.cell? ⟨g2, i * 9 + 2, none⟩ = some (.int .i64 mc) := hit2 2 _ rfl
    have o3 : wr.cell? ⟨g2, i * 9 + 3, none⟩ = some (.int .i64 mp) := hit2 3 _ rfl
    have o4 : wr.cell? ⟨g2, i * 9 + 4, none⟩ = some (.int .i64 mt) := hit2 4 _ rfl
    have o5 : wr.cell? ⟨g2, i * 9 + 5, none⟩ = some (.int .i64 mq) := hit2 5 _ rfl
    have o6 : wr.cell? ⟨g2, i * 9 + 6, none⟩ = some (.bool md) := hit2 6 _ rfl
    have o7 : wr.cell? ⟨g2, i * 9 + 7, none⟩ = some (.int .i64 mf) := hit2 7 _ rfl
    have o8 : wr.cell? ⟨g2, i * 9 + 8, none⟩ = some (.int .i64 ms) := hit2 8 _ rfl
    have HLT := hide hlt
    have s1 := str_eq mk
    have hq : Try.prog.eqGuardType Try.prog.depth 35 = false := by kernel_rfl
    clear hit hit2 hm hlt hg hg2
    go_upto_region 6 with (fail)
    go_quiet (fail)
    go_wp2_with fail
    go_roundw
    case rel => exact ⟨i + 1, HLT.out, by go_num, hide (HBR.out.trans ((below_draws _ _ _).mono HBR.out.size))⟩
    case measure => have := HLT.out; simp [RowKit.intOf] <;> omega
end Po
end Go.Proofs.Ytonmojinijpneaa
end
section
/- The document's receives: Post; may a message be one's. -/
namespace Go.Proofs.Ytonmojinijpneaa
open Go Go.Joins Go.ChangeShapes Go.WideShapes Go.RowKit Go.Deep Go.Lib Go.Proofs.Ytonmojinijpneaa.Qu
set_option linter.unusedVariables false
set_option linter.unusedSimpArgs false
namespace Po
/-- A receive, in a block of its own, put behind a row of one's own. -/
theorem push_rb (w : World) (B : Nat) (A : Option Addr) (cap n : Nat) (xs : List Value) (m : Rc) (h : w.ownsRow B 35 9 (.slice A n cap) n xs) (hB : B ≤ w.heap.size) {b : Nat} (kb : Blk w b 35 #[.string m.key, .int .i64 m.rk, .int .i64 m.ca, .int .i64 m.pe, .int .i64 m.tg, .int .i64 m.rq, .bool m.dn, .int .i64 m.fr, .int .i64 m.sq]) (hl : n ≤ 100000) :
    ∃ A1 c1 w1, (Builtin.append_ #[42, 42] 42 #[.slice A n cap, .slice (some ⟨b, 0, none⟩) 1 1]).run Try.prog w = .ok (.slice A1 (n + 1) c1) w1 ∧
      w1.ownsRow B 35 9 (.slice A1 (n + 1) c1) (n + 1) (xs ++ rcC m) ∧ w.grownBy w1 (Value.slice A n cap).ownBlock ∧ ((Value.slice A1 (n + 1) c1).ownBlock = (Value.slice A n cap).ownBlock ∨ (Value.slice A1 (n + 1) c1).ownBlock = some w.heap.size) := by
  have hrd : Reads w w.heap.size 9 (some ⟨b, 0, none⟩) 1 (rcC m) := ⟨rfl, fun _ => ⟨_, rfl, kb.lt, fun j u hu => by rw [add_lit, kb.cell]; simpa [rcC] using hu⟩⟩
  obtain ⟨i0, hi0, hz0', hz1, hz2⟩ := info_parts rc_info
  obtain ⟨v11, w11, hrun, hown, hk11, hob⟩ := run_append_any (P := Try.prog) w B 42 42 35 i0 _ 9 80 Try.underlying42 hi0 hz0' hz1 hz2 (by rfl) (by omega) _ _ _ h w.heap.size (some ⟨b, 0, none⟩) 1 1 _ hrd (by intro u hu; unfold rcC at hu; simp only [List.mem_cons, List.not_mem_nil, or_false] at hu; rcases hu with rfl | rfl | rfl | rfl | rfl | rfl | rfl | rfl | rfl <;> rfl) (by unfold maxLen; omega) (by omega) (by omega)
  obtain ⟨A11, c11, rfl⟩ := own_form hown
  exact ⟨A11, c11, w11, hrun, hown, hk11, hob⟩
def postI (l : List Rc) (r : Rc) : Int := if postC l r then 0 else 2
set_option maxRecDepth 100000 in
set_option maxHeartbeats 16000000 in
theorem post_b {w : World} {p : Nat} {A : Option Addr} {l : List Rc} (h : DAt w p A l) (hl : l.length ≤ 1000) (key : ByteArray) (rk ca pe tg rq : Int) (dn : Bool) (fr sq : Int) :
    Calls Try.prog 40 #[.pointer (some ⟨p, 0, none⟩), .agg #[.string key, .int .i64 rk, .int .i64 ca, .int .i64 pe, .int .i64 tg, .int .i64 rq, .bool dn, .int .i64 fr, .int .i64 sq]] w fun e w' => e = .returned (.int .i64 (postI l ⟨key, rk, ca, pe, tg, rq, dn, fr, sq⟩)) ∧ GoesD w p A (postG l ⟨key, rk, ca, pe, tg, rq, dn, fr, sq⟩) w' := by
  have b1 := (Below.refl w.heap.size w).alloc (Nat.le_refl _) (.cells #[.string key, .int .i64 rk, .int .i64 ca, .int .i64 pe, .int .i64 tg, .int .i64 rq, .bool dn, .int .i64 fr, .int .i64 sq] 35)
  have kx := Blk.new w 35 #[.string key, .int .i64 rk, .int .i64 ca, .int .i64 pe, .int .i64 tg, .int .i64 rq, .bool dn, .int .i64 fr, .int .i64 sq]
  have GO1 := hide (GoesD.same h b1)
  have HQ0 := hide h
  have HLT := hide h.lt
  have q1 := h.below b1
  have noE : Hid (¬ mayR ⟨key, rk, ca, pe, tg, rq, dn, fr, sq⟩ → postI l ⟨key, rk, ca, pe, tg, rq, dn, fr, sq⟩ = 2 ∧ postG l ⟨key, rk, ca, pe, tg, rq, dn, fr, sq⟩ = l) := hide (fun hn => ⟨by unfold postI; rw [if_neg fun h => hn h.1], by unfold postG; rw [if_neg fun h => hn h.1]⟩)
  obtain ⟨w1, hw1⟩ : ∃ z, w.alloc (.cells #[.string key, .int .i64 rk, .int .i64 ca, .int .i64 pe, .int .i64 tg, .int .i64 rq, .bool dn, .int .i64 fr, .int .i64 sq] 35) = z := ⟨_, rfl⟩
  rw [hw1] at b1 kx q1 GO1
  obtain ⟨X, hX⟩ : ∃ X, w.heap.size = X := ⟨_, rfl⟩
  have HB1 := hide b1
  rw [hX] at kx
  have HQ1 := hide q1
  have KX := hide kx
  have HW1 := hide hw1
  have HX := hide hX
  obtain ⟨n, hn⟩ : ∃ n, l.length = n := ⟨_, rfl⟩
  rw [hn] at hl
  have HN := hide hn
  have HNL := hide hl
  clear b1 kx q1 hw1 hX h hn hl
  go_enter Try.func40, Try.ntmps40
  go_upto_region 1 with (fail)
  rw [HW1.out, HX.out]
  have x0 : w1.cell? ⟨X, 0, none⟩ = some (.string key) := KX.out.cell 0
  have x1 : w1.cell? ⟨X, 1, none⟩ = some (.int .i64 rk) := KX.out.cell 1
  have x2 : w1.cell? ⟨X, 2, none⟩ = some (.int .i64 ca) := KX.out.cell 2
  have x3 : w1.cell? ⟨X, 3, none⟩ = some (.int .i64 pe) := KX.out.cell 3
  have x4 : w1.cell? ⟨X, 4, none⟩ = some (.int .i64 tg) := KX.out.cell 4
  have x5 : w1.cell? ⟨X, 5, none⟩ = some (.int .i64 rq) := KX.out.cell 5
  have x6 : w1.cell? ⟨X, 6, none⟩ = some (.bool dn) := KX.out.cell 6
  have x7 : w1.cell? ⟨X, 7, none⟩ = some (.int .i64 fr) := KX.out.cell 7
  have x8 : w1.cell? ⟨X, 8, none⟩ = some (.int .i64 sq) := KX.out.cell 8
  by_cases h1 : rk < 0
  · have hno : Hid (¬ mayR ⟨key, rk, ca, pe, tg, rq, dn, fr, sq⟩) := hide (fun h => by unfold mayR at h; simp only at h; omega)
    go_wp2_with fail
    go_ret
    exact ⟨by rw [(noE.out hno.out).1]; rfl, by rw [(noE.out hno.out).2]; exact GO1.out⟩
  by_cases h2 : 63 < rk
  · have hno : Hid (¬ mayR ⟨key, rk, ca, pe, tg, rq, dn, fr, sq⟩) := hide (fun h => by unfold mayR at h; simp only at h; omega)
    go_wp2_with fail
    go_ret
    exact ⟨by rw [(noE.out hno.out).1]; rfl, by rw [(noE.out hno.out).2]; exact GO1.out⟩
  by_cases h3 : pe < -1
  · have hno : Hid (¬ mayR ⟨key, rk, ca, pe, tg, rq, dn, fr, sq⟩) := hide (fun h => by unfold mayR at h; simp only at h; omega)
    go_wp2_with fail
    go_ret
    exact ⟨by rw [(noE.out hno.out).1]; rfl, by rw [(noE.out hno.out).2]; exact GO1.out⟩
  by_cases h4 : 63 < pe
  · have hno : Hid (¬ mayR ⟨key, rk, ca, pe, tg, rq, dn, fr, sq⟩) := hide (fun h => by unfold mayR at h; simp only at h; omega)
    go_wp2_with fail
    go_ret
    exact ⟨by rw [(noE.out hno.out).1]; rfl, by rw [(noE.out hno.out).2]; exact GO1.out⟩
  by_cases h5 : tg < -1
  · have hno : Hid (¬ mayR ⟨key, rk, ca, pe, tg, rq, dn, fr, sq⟩) := hide (fun h => by unfold mayR at h; simp only at h; omega)
    go_wp2_with fail
    go_ret
    exact ⟨by rw [(noE.out hno.out).1]; rfl, by rw [(noE.out hno.out).2]; exact GO1.out⟩
  by_cases h6 : 32767 < tg
  · have hno : Hid (¬ mayR ⟨key, rk, ca, pe, tg, rq, dn, fr, sq⟩) := hide (fun h => by unfold mayR at h; simp only at h; omega)
    go_wp2_with fail
    go_ret
    exact ⟨by rw [(noE.out hno.out).1]; rfl, by rw [(noE.out hno.out).2]; exact GO1.out⟩
  by_cases h7 : rq < -1
  · have hno : Hid (¬ mayR ⟨key, rk, ca, pe, tg, rq, dn, fr, sq⟩) := hide (fun h => by unfold mayR at h; simp only at h; omega)
    go_wp2_with fail
    go_ret
    exact ⟨by rw [(noE.out hno.out).1]; rfl, by rw [(noE.out hno.out).2]; exact GO1.out⟩
  by_cases h8 : ca < 0
  · have hno : Hid (¬ mayR ⟨key, rk, ca, pe, tg, rq, dn, fr, sq⟩) := hide (fun h => by unfold mayR at h; simp only at h; omega)
    go_wp2_with fail
    go_ret
    exact ⟨by rw [(noE.out hno.out).1]; rfl, by rw [(noE.out hno.out).2]; exact GO1.out⟩
  have HMAY : Hid (mayR ⟨key, rk, ca, pe, tg, rq, dn, fr, sq⟩) := hide ⟨by show _ ≤ _; simp only; omega, by show _ < _; simp only; omega, by show _ ≤ _; simp only; omega, by show _ ≤ _; simp only; omega, by show _ < _; simp only; omega, by show _ ≤ _; simp only; omega, by show _ ≤ _; simp only; omega, by show _ ≤ _; simp only; omega⟩
  go_wp2_with fail
  clear x0 x1 x2 x3 x4 x5 x6 x7 x8
  go_loopw [5] (fun v5 wr => ∃ i : Nat, i ≤ n ∧ v5 = .int .i64 i ∧ Hid (Below w1.heap.size w1 wr) ∧ Hid (∀ x ∈ l.take i, x.rk = rk → x.ca < ca)) (fun v5 _ => n - (RowKit.intOf v5).toNat)
  case atStart => exact ⟨0, Nat.zero_le _, rfl, hide (Below.refl _ _), hide (fun x hx => absurd hx (by simp))⟩
  case round =>
    obtain ⟨i, hi, rfl, HB, HNO⟩ := hrel
    rename World => wr
    have hnl := HNL.out
    have HQr := hide (HQ1.out.below HB.out)
    have KXr := hide (KX.out.below HB.out KX.out.lt)
    have HBr := hide (HB1.out.trans (HB.out.mono HB1.out.size))
    by_cases hlt : i < n
    rotate_left
    · have hltI : ¬ (i : Int) < (n : Int) := by omega
      have HC : Hid (postC l ⟨key, rk, ca, pe, tg, rq, dn, fr, sq⟩) := hide ⟨HMAY.out, by have h := HNO.out; rwa [List.take_of_length_le (by rw [HN.out]; omega)] at h⟩
      obtain ⟨cap, hb, hown⟩ := HQr.out
      rw [HN.out] at hb hown
      have HKP := hide hb
      have HOWN := hide hown
      have c0 : wr.cell? ⟨p, 0, none⟩ = some (.slice A n cap) := hb.cell 0
      obtain ⟨ROW, hROW⟩ : ∃ z, (Value.slice A n cap).ownBlock = z := ⟨_, rfl⟩
      have HROW := hide hROW
      have HNX : Hid (some X ≠ ROW) := hide (by
        rw [← hROW]
        intro e
        have : X ∈ df p A := by
          unfold df
          cases A with
          | none => simp [Value.ownBlock] at e
          | some a => have : a.block = X := by simpa [Value.ownBlock] using e.symm
                      simp [this]
        have := HLT.out X this
        have := HX.out
        omega)
      have HNP : Hid (some p ≠ ROW) := hide (by
        rw [← hROW]
        intro e
        have h1 := (own_block hown (g := p) e.symm).2.2
        obtain ⟨cs, h1⟩ := h1
        have := h1.symm.trans hb
        injection this with e1
        injection e1 with _ e2
        exact absurd e2 (by decide))
      have FE : Hid (postI l ⟨key, rk, ca, pe, tg, rq, dn, fr, sq⟩ = 0 ∧ postG l ⟨key, rk, ca, pe, tg, rq, dn, fr, sq⟩ = l ++ [⟨key, rk, ca, pe, tg, rq, false, 0, 0⟩]) := hide ⟨by unfold postI; rw [if_pos HC.out], by unfold postG; rw [if_pos HC.out]; rfl⟩
      clear hb hown hROW hlt hi
      go_upto_region 8 with (fail)
      clear c0
      let R : Nat → Value → World → Prop := fun sl u w1 => match sl with
        | 77 => u = .pointer (some ⟨p, 0, none⟩)
        | 78 => u = .pointer (some ⟨p, 0, none⟩)
        | 79 => u = .pointer (some ⟨p, 0, none⟩)
        | 80 => u = .pointer (some ⟨p, 0, none⟩)
        | 81 => u = .slice A n cap
        | 82 => u = .pointer (some ⟨X, 0, none⟩)
        | 83 => u = .string key
        | 84 => u = .pointer (some ⟨X, 1, none⟩)
        | 85 => u = .int .i64 rk
        | 86 => u = .pointer (some ⟨X, 2, none⟩)
        | 87 => u = .int .i64 ca
        | 88 => u = .pointer (some ⟨X, 3, none⟩)
        | 89 => u = .int .i64 pe
        | 90 => u = .pointer (some ⟨X, 4, none⟩)
        | 91 => u = .int .i64 tg
        | 92 => u = .pointer (some ⟨X, 5, none⟩)
        | 93 => u = .int .i64 rq
        | 94 => u = .agg #[.string key, .int .i64 rk, .int .i64 ca, .int .i64 pe, .int .i64 tg, .int .i64 rq, .bool false, .int .i64 0, .int .i64 0]
        | 95 => ∃ b, u = .slice (some ⟨b, 0, none⟩) 1 1 ∧ wr.heap.size ≤ b ∧ Blk w1 b 35 #[.string key, .int .i64 rk, .int .i64 ca, .int .i64 pe, .int .i64 tg, .int .i64 rq, .bool false, .int .i64 0, .int .i64 0]
        | 97 => u = .pointer (some ⟨p, 0, none⟩)
        | 98 => u = .pointer (some ⟨p, 0, none⟩)
        | _ => True
      let K : World → World → Prop := fun a b => a.grownBy b ROW
      let J : Option Value → World → Prop := fun b w1 => match b with
        | none => w1.ownsRow 0 35 9 (.slice A n cap) n (rcCs l)
        | some u => ∃ A2 c2, u = .slice A2 (n + 1) c2 ∧ w1.ownsRow 0 35 9 (.slice A2 (n + 1) c2) (n + 1) (rcCs l ++ rcC ⟨key, rk, ca, pe, tg, rq, false, 0, 0⟩) ∧ ((Value.slice A2 (n + 1) c2).ownBlock = ROW ∨ ∃ g, (Value.slice A2 (n + 1) c2).ownBlock = some g ∧ wr.heap.size ≤ g)
      have hKB : ∀ x y, Below x.heap.size x y → K x y := fun _ _ hb => grown_of_below hb
      have hJB : ∀ b x y, J b x → Below x.heap.size x y → J b y := fun b x y hj hb => by
        cases b with
        | none => exact own_belowR hj hb
        | some u => exact (fun ⟨g, c', h1, h2, h3⟩ => ⟨g, c', h1, own_belowR h2 hb, h3⟩) hj
      refine wp_region_relJ 22 96 R K J (by kernel_rfl) (by kernel_rfl) (by kernel_rfl) (by kernel_rfl) (by kernel_rfl) (fun _ _ _ h1 h2 => gtrans h1 h2) (hKB _ _ (Below.refl _ _).drew) (own_belowR HOWN.out (Below.refl _ _).drew) ?mono ?step ?fin
      case mono =>
        intro sl u wx wy h hk
        match sl with
        | 95 =>
          obtain ⟨b, h1, h2, h3⟩ := h
          refine ⟨b, h1, h2, h3.grown hk fun e => ?_⟩
          have := (own_block HOWN.out (HROW.out.trans e.symm)).2.1
          omega
        | 0 | 1 | 2 | 3 | 4 | 5 | 6 | 7 | 8 | 9 | 10 | 11 | 12 | 13 | 14 | 15 | 16 | 17 | 18 | 19 | 20 | 21 | 22 | 23 | 24 | 25 | 26 | 27 | 28 | 29 | 30 | 31 | 32 | 33 | 34 | 35 | 36 | 37 | 38 | 39 | 40 | 41 | 42 | 43 | 44 | 45 | 46 | 47 | 48 | 49 | 50 | 51 | 52 | 53 | 54 | 55 | 56 | 57 | 58 | 59 | 60 | 61 | 62 | 63 | 64 | 65 | 66 | 67 | 68 | 69 | 70 | 71 | 72 | 73 | 74 | 75 | 76 | 77 | 78 | 79 | 80 | 81 | 82 | 83 | 84 | 85 | 86 | 87 | 88 | 89 | 90 | 91 | 92 | 93 | 94 | 96 | 97 | 98 | _ + 99 => exact h
      case step =>
        intro op hop
        simp only [List.take, List.mem_cons, List.not_mem_nil, or_false] at hop
        rcases hop with rfl | rfl | rfl | rfl | rfl | rfl | rfl | rfl | rfl | rfl | rfl | rfl | rfl | rfl | rfl | rfl | rfl | rfl | rfl | rfl | rfl | rfl
        · refine ⟨fun h => absurd h (by decide), fun _ b => stepJ_of hKB hJB fun a w1 hk hj hsm hr => ?_⟩
          have e0 : a.tmps.getD 0 undef = .pointer (some ⟨p, 0, none⟩) := hsm 0 (by decide)
          rw [Array.getD_eq_getD_getElem?] at e0
          unfold Oper.wp
          simp only [execOp, Act.eval, Array.getD_eq_getD_getElem?, e0]
          go_simp
          first | exact ⟨_, rfl, rfl, Below.refl _ _⟩ | exact ⟨_, rfl, trivial, Below.refl _ _⟩ | exact ⟨_, rfl, Below.refl _ _⟩
        · refine ⟨fun h => absurd h (by decide), fun _ b => stepJ_of hKB hJB fun a w1 hk hj hsm hr => ?_⟩
          have e0 : a.tmps.getD 0 undef = .pointer (some ⟨p, 0, none⟩) := hsm 0 (by decide)
          rw [Array.getD_eq_getD_getElem?] at e0
          unfold Oper.wp
          simp only [execOp, Act.eval, Array.getD_eq_getD_getElem?, e0]
          go_simp
          first | exact ⟨_, rfl, rfl, Below.refl _ _⟩ | exact ⟨_, rfl, trivial, Below.refl _ _⟩ | exact ⟨_, rfl, Below.refl _ _⟩
        · refine ⟨fun h => absurd h (by decide), fun _ b => stepJ_of hKB hJB fun a w1 hk hj hsm hr => ?_⟩
          have e78 : a.tmps.getD 78 undef = .pointer (some ⟨p, 0, none⟩) := hr 78 (by decide) (by apply Array.mem_toList_iff.1; repeat (first | exact List.Mem.head _ | apply List.Mem.tail))
          rw [Array.getD_eq_getD_getElem?] at e78
          unfold Oper.wp
          simp only [execOp, Act.eval, Array.getD_eq_getD_getElem?, e78]
          go_simp
          first | exact ⟨_, rfl, rfl, Below.refl _ _⟩ | exact ⟨_, rfl, trivial, Below.refl _ _⟩ | exact ⟨_, rfl, Below.refl _ _⟩
        · refine ⟨fun h => absurd h (by decide), fun _ b => stepJ_of hKB hJB fun a w1 hk hj hsm hr => ?_⟩
          have e79 : a.tmps.getD 79 undef = .pointer (some ⟨p, 0, none⟩) := hr 79 (by decide) (by apply Array.mem_toList_iff.1; repeat (first | exact List.Mem.head _ | apply List.Mem.tail))
          rw [Array.getD_eq_getD_getElem?] at e79
          unfold Oper.wp
          simp only [execOp, Act.eval, Array.getD_eq_getD_getElem?, e79]
          go_simp
          first | exact ⟨_, rfl, rfl, Below.refl _ _⟩ | exact ⟨_, rfl, trivial, Below.refl _ _⟩ | exact ⟨_, rfl, Below.refl _ _⟩
        · refine ⟨fun h => absurd h (by decide), fun _ b => stepJ_of hKB hJB fun a w1 hk hj hsm hr => ?_⟩
          have e80 : a.tmps.getD 80 undef = .pointer (some ⟨p, 0, none⟩) := hr 80 (by decide) (by apply Array.mem_toList_iff.1; repeat (first | exact List.Mem.head _ | apply List.Mem.tail))
          have cp : w1.cell? ⟨p, 0, none⟩ = some (.slice A n cap) := (HKP.out.grown hk HNP.out).cell 0
          rw [Array.getD_eq_getD_getElem?] at e80
          unfold Oper.wp
          simp only [execOp, Act.eval, Array.getD_eq_getD_getElem?, e80]
          go_simp
          first | exact ⟨_, rfl, rfl, Below.refl _ _⟩ | exact ⟨_, rfl, trivial, Below.refl _ _⟩ | exact ⟨_, rfl, Below.refl _ _⟩
        · refine ⟨fun h => absurd h (by decide), fun _ b => stepJ_of hKB hJB fun a w1 hk hj hsm hr => ?_⟩
          have e3 : a.tmps.getD 3 undef = .pointer (some ⟨X, 0, none⟩) := hsm 3 (by decide)
          rw [Array.getD_eq_getD_getElem?] at e3
          unfold Oper.wp
          simp only [execOp, Act.eval, Array.getD_eq_getD_getElem?, e3]
          go_simp
          first | exact ⟨_, rfl, rfl, Below.refl _ _⟩ | exact ⟨_, rfl, trivial, Below.refl _ _⟩ | exact ⟨_, rfl, Below.refl _ _⟩
        · refine ⟨fun h => absurd h (by decide), fun _ b => stepJ_of hKB hJB fun a w1 hk hj hsm hr => ?_⟩
          have e82 : a.tmps.getD 82 undef = .pointer (some ⟨X, 0, none⟩) := hr 82 (by decide) (by apply Array.mem_toList_iff.1; repeat (first | exact List.Mem.head _ | apply List.Mem.tail))
          have cx := (KXr.out.grown hk HNX.out).cell 0
          simp only [List.getElem?_toArray, List.getElem?_cons_zero, List.getElem?_cons_succ] at cx
          rw [Array.getD_eq_getD_getElem?] at e82
          unfold Oper.wp
          simp only [execOp, Act.eval, Array.getD_eq_getD_getElem?, e82]
          go_simp
          first | exact ⟨_, rfl, rfl, Below.refl _ _⟩ | exact ⟨_, rfl, trivial, Below.refl _ _⟩ | exact ⟨_, rfl, Below.refl _ _⟩
        · refine ⟨fun h => absurd h (by decide), fun _ b => stepJ_of hKB hJB fun a w1 hk hj hsm hr => ?_⟩
          have e3 : a.tmps.getD 3 undef = .pointer (some ⟨X, 0, none⟩) := hsm 3 (by decide)
          rw [Array.getD_eq_getD_getElem?] at e3
          unfold Oper.wp
          simp only [execOp, Act.eval, Array.getD_eq_getD_getElem?, e3]
          go_simp
          first | exact ⟨_, rfl, rfl, Below.refl _ _⟩ | exact ⟨_, rfl, trivial, Below.refl _ _⟩ | exact ⟨_, rfl, Below.refl _ _⟩
        · refine ⟨fun h => absurd h (by decide), fun _ b => stepJ_of hKB hJB fun a w1 hk hj hsm hr => ?_⟩
          have e84 : a.tmps.getD 84 undef = .pointer (some ⟨X, 1, none⟩) := hr 84 (by decide) (by apply Array.mem_toList_iff.1; repeat (first | exact List.Mem.head _ | apply List.Mem.tail))
          have cx := (KXr.out.grown hk HNX.out).cell 1
          simp only [List.getElem?_toArray, List.getElem?_cons_zero, List.getElem?_cons_succ] at cx
          rw [Array.getD_eq_getD_getElem?] at e84
          unfold Oper.wp
          simp only [execOp, Act.eval, Array.getD_eq_getD_getElem?, e84]
          go_simp
          first | exact ⟨_, rfl, rfl, Below.refl _ _⟩ | exact ⟨_, rfl, trivial, Below.refl _ _⟩ | exact ⟨_, rfl, Below.refl _ _⟩
        · refine ⟨fun h => absurd h (by decide), fun _ b => stepJ_of hKB hJB fun a w1 hk hj hsm hr => ?_⟩
          have e3 : a.tmps.getD 3 undef = .pointer (some ⟨X, 0, none⟩) := hsm 3 (by decide)
          rw [Array.getD_eq_getD_getElem?] at e3
          unfold Oper.wp
          simp only [execOp, Act.eval, Array.getD_eq_getD_getElem?, e3]
          go_simp
          first | exact ⟨_, rfl, rfl, Below.refl _ _⟩ | exact ⟨_, rfl, trivial, Below.refl _ _⟩ | exact ⟨_, rfl, Below.refl _ _⟩
        · refine ⟨fun h => absurd h (by decide), fun _ b => stepJ_of hKB hJB fun a w1 hk hj hsm hr => ?_⟩
          have e86 : a.tmps.getD 86 undef = .pointer (some ⟨X, 2, none⟩) := hr 86 (by decide) (by apply Array.mem_toList_iff.1; repeat (first | exact List.Mem.head _ | apply List.Mem.tail))
          have cx := (KXr.out.grown hk HNX.out).cell 2
          simp only [List.getElem?_toArray, List.getElem?_cons_zero, List.getElem?_cons_succ] at cx
          rw [Array.getD_eq_getD_getElem?] at e86
          unfold Oper.wp
          simp only [execOp, Act.eval, Array.getD_eq_getD_getElem?, e86]
          go_simp
          first | exact ⟨_, rfl, rfl, Below.refl _ _⟩ | exact ⟨_, rfl, trivial, Below.refl _ _⟩ | exact ⟨_, rfl, Below.refl _ _⟩
        · refine ⟨fun h => absurd h (by decide), fun _ b => stepJ_of hKB hJB fun a w1 hk hj hsm hr => ?_⟩
          have e3 : a.tmps.getD 3 undef = .pointer (some ⟨X, 0, none⟩) := hsm 3 (by decide)
          rw [Array.getD_eq_getD_getElem?] at e3
          unfold Oper.wp
          simp only [execOp, Act.eval, Array.getD_eq_getD_getElem?, e3]
          go_simp
          first | exact ⟨_, rfl, rfl, Below.refl _ _⟩ | exact ⟨_, rfl, trivial, Below.refl _ _⟩ | exact ⟨_, rfl, Below.refl _ _⟩
        · refine ⟨fun h => absurd h (by decide), fun _ b => stepJ_of hKB hJB fun a w1 hk hj hsm hr => ?_⟩
          have e88 : a.tmps.getD 88 undef = .pointer (some ⟨X, 3, none⟩) := hr 88 (by decide) (by apply Array.mem_toList_iff.1; repeat (first | exact List.Mem.head _ | apply List.Mem.tail))
          have cx := (KXr.out.grown hk HNX.out).cell 3
          simp only [List.getElem?_toArray, List.getElem?_cons_zero, List.getElem?_cons_succ] at cx
          rw [Array.getD_eq_getD_getElem?] at e88
          unfold Oper.wp
          simp only [execOp, Act.eval, Array.getD_eq_getD_getElem?, e88]
          go_simp
          first | exact ⟨_, rfl, rfl, Below.refl _ _⟩ | exact ⟨_, rfl, trivial, Below.refl _ _⟩ | exact ⟨_, rfl, Below.refl _ _⟩
        · refine ⟨fun h => absurd h (by decide), fun _ b => stepJ_of hKB hJB fun a w1 hk hj hsm hr => ?_⟩
          have e3 : a.tmps.getD 3 undef = .pointer (some ⟨X, 0, none⟩) := hsm 3 (by decide)
          rw [Array.getD_eq_getD_getElem?] at e3
          unfold Oper.wp
          simp only [execOp, Act.eval, Array.getD_eq_getD_getElem?, e3]
          go_simp
          first | exact ⟨_, rfl, rfl, Below.refl _ _⟩ | exact ⟨_, rfl, trivial, Below.refl _ _⟩ | exact ⟨_, rfl, Below.refl _ _⟩
        · refine ⟨fun h => absurd h (by decide), fun _ b => stepJ_of hKB hJB fun a w1 hk hj hsm hr => ?_⟩
          have e90 : a.tmps.getD 90 undef = .pointer (some ⟨X, 4, none⟩) := hr 90 (by decide) (by apply Array.mem_toList_iff.1; repeat (first | exact List.Mem.head _ | apply List.Mem.tail))
          have cx := (KXr.out.grown hk HNX.out).cell 4
          simp only [List.getElem?_toArray, List.getElem?_cons_zero, List.getElem?_cons_succ] at cx
          rw [Array.getD_eq_getD_getElem?] at e90
          unfold Oper.wp
          simp only [execOp, Act.eval, Array.getD_eq_getD_getElem?, e90]
          go_simp
          first | exact ⟨_, rfl, rfl, Below.refl _ _⟩ | exact ⟨_, rfl, trivial, Below.refl _ _⟩ | exact ⟨_, rfl, Below.refl _ _⟩
        · refine ⟨fun h => absurd h (by decide), fun _ b => stepJ_of hKB hJB fun a w1 hk hj hsm hr => ?_⟩
          have e3 : a.tmps.getD 3 undef = .pointer (some ⟨X, 0, none⟩) := hsm 3 (by decide)
          rw [Array.getD_eq_getD_getElem?] at e3
          unfold Oper.wp
          simp only [execOp, Act.eval, Array.getD_eq_getD_getElem?, e3]
          go_simp
          first | exact ⟨_, rfl, rfl, Below.refl _ _⟩ | exact ⟨_, rfl, trivial, Below.refl _ _⟩ | exact ⟨_, rfl, Below.refl _ _⟩
        · refine ⟨fun h => absurd h (by decide), fun _ b => stepJ_of hKB hJB fun a w1 hk hj hsm hr => ?_⟩
          have e92 : a.tmps.getD 92 undef = .pointer (some ⟨X, 5, none⟩) := hr 92 (by decide) (by apply Array.mem_toList_iff.1; repeat (first | exact List.Mem.head _ | apply List.Mem.tail))
          have cx := (KXr.out.grown hk HNX.out).cell 5
          simp only [List.getElem?_toArray, List.getElem?_cons_zero, List.getElem?_cons_succ] at cx
          rw [Array.getD_eq_getD_getElem?] at e92
          unfold Oper.wp
          simp only [execOp, Act.eval, Array.getD_eq_getD_getElem?, e92]
          go_simp
          first | exact ⟨_, rfl, rfl, Below.refl _ _⟩ | exact ⟨_, rfl, trivial, Below.refl _ _⟩ | exact ⟨_, rfl, Below.refl _ _⟩
        · refine ⟨fun h => absurd h (by decide), fun _ b => stepJ_of hKB hJB fun a w1 hk hj hsm hr => ?_⟩
          have e83 : a.tmps.getD 83 undef = .string key := hr 83 (by decide) (by apply Array.mem_toList_iff.1; repeat (first | exact List.Mem.head _ | apply List.Mem.tail))
          have e85 : a.tmps.getD 85 undef = .int .i64 rk := hr 85 (by decide) (by apply Array.mem_toList_iff.1; repeat (first | exact List.Mem.head _ | apply List.Mem.tail))
          have e87 : a.tmps.getD 87 undef = .int .i64 ca := hr 87 (by decide) (by apply Array.mem_toList_iff.1; repeat (first | exact List.Mem.head _ | apply List.Mem.tail))
          have e89 : a.tmps.getD 89 undef = .int .i64 pe := hr 89 (by decide) (by apply Array.mem_toList_iff.1; repeat (first | exact List.Mem.head _ | apply List.Mem.tail))
          have e91 : a.tmps.getD 91 undef = .int .i64 tg := hr 91 (by decide) (by apply Array.mem_toList_iff.1; repeat (first | exact List.Mem.head _ | apply List.Mem.tail))
          have e93 : a.tmps.getD 93 undef = .int .i64 rq := hr 93 (by decide) (by apply Array.mem_toList_iff.1; repeat (first | exact List.Mem.head _ | apply List.Mem.tail))
          rw [Array.getD_eq_getD_getElem?] at e83
          rw [Array.getD_eq_getD_getElem?] at e85
          rw [Array.getD_eq_getD_getElem?] at e87
          rw [Array.getD_eq_getD_getElem?] at e89
          rw [Array.getD_eq_getD_getElem?] at e91
          rw [Array.getD_eq_getD_getElem?] at e93
          unfold Oper.wp
          simp only [execOp, Act.eval, Array.getD_eq_getD_getElem?, e83, e85, e87, e89, e91, e93]
          go_simp
          first | exact ⟨_, rfl, rfl, Below.refl _ _⟩ | exact ⟨_, rfl, trivial, Below.refl _ _⟩ | exact ⟨_, rfl, Below.refl _ _⟩
        · refine ⟨fun h => absurd h (by decide), fun _ b => stepJ_of hKB hJB fun a w1 hk hj hsm hr => ?_⟩
          have e94 : a.tmps.getD 94 undef = .agg #[.string key, .int .i64 rk, .int .i64 ca, .int .i64 pe, .int .i64 tg, .int .i64 rq, .bool false, .int .i64 0, .int .i64 0] := hr 94 (by decide) (by apply Array.mem_toList_iff.1; repeat (first | exact List.Mem.head _ | apply List.Mem.tail))
          have hsz := hk.size
          rw [Array.getD_eq_getD_getElem?] at e94
          unfold Oper.wp
          simp only [execOp, Act.eval, Array.getD_eq_getD_getElem?, e94]
          go_simp
          exact ⟨_, rfl, ⟨w1.heap.size, rfl, hsz, Blk.new w1 35 _⟩, (Below.refl _ _).alloc (Nat.le_refl _) _⟩
        · refine ⟨fun _ a w1 hk hj hsm hr => ?_, fun h => absurd rfl h⟩
          have e81 : a.tmps.getD 81 undef = .slice A n cap := hr 81 (by decide) (by apply Array.mem_toList_iff.1; repeat (first | exact List.Mem.head _ | apply List.Mem.tail))
          have r95 := hr 95 (by decide) (by apply Array.mem_toList_iff.1; repeat (first | exact List.Mem.head _ | apply List.Mem.tail))
          obtain ⟨b, e95, hb, hbb⟩ := r95
          have hj : w1.ownsRow 0 35 9 (.slice A n cap) n (rcCs l) := hj
          have e95 : a.tmps.getD 95 undef = .slice (some ⟨b, 0, none⟩) 1 1 := e95
          obtain ⟨A2, c2, w2, hrun, hown, hgr, hob⟩ := push_rb w1 0 A cap n _ ⟨key, rk, ca, pe, tg, rq, false, 0, 0⟩ hj (Nat.zero_le _) hbb (by omega)
          exact wp_append_run w1 (.tmp 81) (.tmp 95) _ _ rfl _ _ e81 e95 _ _ hrun ⟨_, rfl, (fun t ht => by cases ht; exact True.intro), (show w1.grownBy w2 ROW by rw [← HROW.out]; exact hgr), ⟨A2, c2, rfl, hown, by rw [← HROW.out]; exact hob.imp id (fun e => ⟨_, e, hk.size⟩)⟩⟩
        · refine ⟨fun h => absurd h (by decide), fun _ b => stepJ_of hKB hJB fun a w1 hk hj hsm hr => ?_⟩
          have e77 : a.tmps.getD 77 undef = .pointer (some ⟨p, 0, none⟩) := hr 77 (by decide) (by apply Array.mem_toList_iff.1; repeat (first | exact List.Mem.head _ | apply List.Mem.tail))
          rw [Array.getD_eq_getD_getElem?] at e77
          unfold Oper.wp
          simp only [execOp, Act.eval, Array.getD_eq_getD_getElem?, e77]
          go_simp
          first | exact ⟨_, rfl, rfl, Below.refl _ _⟩ | exact ⟨_, rfl, trivial, Below.refl _ _⟩ | exact ⟨_, rfl, Below.refl _ _⟩
        · refine ⟨fun h => absurd h (by decide), fun _ b => stepJ_of hKB hJB fun a w1 hk hj hsm hr => ?_⟩
          have e97 : a.tmps.getD 97 undef = .pointer (some ⟨p, 0, none⟩) := hr 97 (by decide) (by apply Array.mem_toList_iff.1; repeat (first | exact List.Mem.head _ | apply List.Mem.tail))
          rw [Array.getD_eq_getD_getElem?] at e97
          unfold Oper.wp
          simp only [execOp, Act.eval, Array.getD_eq_getD_getElem?, e97]
          go_simp
          first | exact ⟨_, rfl, rfl, Below.refl _ _⟩ | exact ⟨_, rfl, trivial, Below.refl _ _⟩ | exact ⟨_, rfl, Below.refl _ _⟩
      case fin =>
        intro ff w9 hk hj hr
        obtain ⟨A2, c2, e96, hown, hob⟩ : ∃ A2 c2, ff 96 = .slice A2 (n + 1) c2 ∧ w9.ownsRow 0 35 9 (.slice A2 (n + 1) c2) (n + 1) (rcCs l ++ rcC ⟨key, rk, ca, pe, tg, rq, false, 0, 0⟩) ∧ ((Value.slice A2 (n + 1) c2).ownBlock = ROW ∨ ∃ g, (Value.slice A2 (n + 1) c2).ownBlock = some g ∧ wr.heap.size ≤ g) := hj
        have e98 : ff 98 = .pointer (some ⟨p, 0, none⟩) := hr 98 (by decide)
        have hk : wr.grownBy w9 ROW := hk
        have hgo' := goes_postD (w := w) (w1 := wr) (w7 := w9) (A2 := A2) (c2 := c2) (l := l) (m := ⟨key, rk, ca, pe, tg, rq, false, 0, 0⟩) (cap := cap) (A := A) (p := p) (by rw [HN.out]; exact HKP.out) (by rw [HN.out]; exact HOWN.out) HBr.out (by rw [HN.out, HROW.out]; exact hk) (by rw [HN.out]; exact hown) (by rw [HN.out, HROW.out]; exact hob)
        rw [HN.out] at hgo'
        obtain ⟨hp7, hgo⟩ := hgo'
        have GO9 := hide hgo
        have c7 : w9.cell? ⟨p, 0, none⟩ = some (.slice A n cap) := hp7.cell 0
        have f7 := hp7.frozen 0
        clear hr hgo hp7 hown hob hk
        simp only [putAll, slotsOf, List.take, List.drop, List.filterMap_cons, List.filterMap_nil, List.foldl_cons, List.foldl_nil, Act.put, e96, e98]
        simp only [List.setIfInBounds_toArray, List.set_cons_succ, List.set_cons_zero]
        go_wp2_with fail
        go_ret
        exact ⟨by rw [FE.out.1]; rfl, by rw [FE.out.2]; exact GO9.out⟩
    have hltI : (i : Int) < (n : Int) := by omega
    obtain ⟨cap, c0, hrr, hcap⟩ := HQr.out.cell0
    rw [HN.out] at c0 hcap
    obtain ⟨⟨mk, mr, mc, mp, mt, mq, md, mf, ms⟩, hm⟩ : ∃ m, l[i]? = some m := ⟨_, List.getElem?_eq_getElem (by rw [HN.out]; exact hlt)⟩
    obtain ⟨g, rfl, hg, hit⟩ := hrr.it i _ hm
    have n1 : wr.cell? ⟨g, i * 9 + 1, none⟩ = some (.int .i64 mr) := hit 1 _ rfl
    have n2 : wr.cell? ⟨g, i * 9 + 2, none⟩ = some (.int .i64 mc) := hit 2 _ rfl
    have y1 : wr.cell? ⟨X, 1, none⟩ = some (.int .i64 rk) := KXr.out.cell 1
    have y2 : wr.cell? ⟨X, 2, none⟩ = some (.int .i64 ca) := KXr.out.cell 2
    have hst : (mr = rk → mc < ca) → ∀ x ∈ l.take (i + 1), x.rk = rk → x.ca < ca := fun hc x hx => by
      obtain ⟨h1, e1⟩ := List.getElem?_eq_some_iff.1 hm
      rw [List.take_succ_eq_append_getElem h1] at hx
      rcases List.mem_append.1 hx with hx | hx
      · exact HNO.out x hx
      · rw [List.mem_singleton, e1] at hx
        rw [hx]
        exact hc
    have HST := hide hst
    have HM := hide hm
    have HLT := hide hlt
    clear hst hit hm hg hlt hrr
    by_cases h1 : mr = rk
    rotate_left
    · have t1 : (mr == rk) = false := by simpa using h1
      have HNO1 := hide (HST.out (fun h => absurd h h1))
      clear h1 HST
      go_upto_region 6 with (fail)
      go_quiet (fail)
      go_wp2_with fail
      go_roundw
      case rel => exact ⟨i + 1, HLT.out, by go_num, hide (HB.out.trans ((below_draws _ _ _).mono HB.out.size)), HNO1⟩
      case measure => have := HLT.out; simp [RowKit.intOf] <;> omega
    have t1 : (mr == rk) = true := by simpa using h1
    by_cases h2 : ca ≤ mc
    · have t2 : decide (ca ≤ mc) = true := decide_eq_true h2
      have FE : Hid (postI l ⟨key, rk, ca, pe, tg, rq, dn, fr, sq⟩ = 2 ∧ postG l ⟨key, rk, ca, pe, tg, rq, dn, fr, sq⟩ = l) := hide (by
        have hn : ¬ postC l ⟨key, rk, ca, pe, tg, rq, dn, fr, sq⟩ := fun h => by
          have := h.2 _ (List.mem_of_getElem? HM.out) h1
          simp only at this
          omega
        exact ⟨by unfold postI; rw [if_neg hn], by unfold postG; rw [if_neg hn]⟩)
      clear h1 HST
      go_upto_region 6 with (fail)
      go_quiet (fail)
      go_wp2_with fail
      go_ret
      exact ⟨by rw [FE.out.1]; rfl, by rw [FE.out.2]; exact GoesD.same HQ0.out (HBr.out.trans ((below_draws _ _ _).mono HBr.out.size))⟩
    · have t2 : decide (ca ≤ mc) = false := decide_eq_false h2
      have HNO1 := hide (HST.out (fun _ => by omega))
      clear h1 HST
      go_upto_region 6 with (fail)
      go_quiet (fail)
      go_wp2_with fail
      go_roundw
      case rel => exact ⟨i + 1, HLT.out, by go_num, hide (HB.out.trans ((below_draws _ _ _).mono HB.out.size)), HNO1⟩
      case measure => have := HLT.out; simp [RowKit.intOf] <;> omega
set_option maxRecDepth 100000 in
set_option maxHeartbeats 16000000 in
theorem its_b {w : World} {p q : Nat} {A Aq : Option Addr} {rl : List Rc} {l : List Msg} (h : DAt w p A rl) (hq : RAt w q Aq l) (hl : rl.length ≤ 1000) (hlq : l.length ≤ 1000) (key : ByteArray) (rk ca pe tg rq : Int) (dn : Bool) (fr sq : Int) (xk : ByteArray) (xf xt xc xg xv xz : Int) (xb : Bool) (pr : Bool) :
    Calls Try.prog 82 #[.pointer (some ⟨p, 0, none⟩), .pointer (some ⟨q, 0, none⟩), .agg #[.string key, .int .i64 rk, .int .i64 ca, .int .i64 pe, .int .i64 tg, .int .i64 rq, .bool dn, .int .i64 fr, .int .i64 sq], .agg #[.string xk, .int .i64 xf, .int .i64 xt, .int .i64 xc, .int .i64 xg, .int .i64 xv, .int .i64 xz, .bool xb], .bool pr] w fun e w' => e = .returned (.bool (itsB rl l ⟨key, rk, ca, pe, tg, rq, dn, fr, sq⟩ ⟨xk, xf, xt, xc, xg, xv, xz, xb⟩ pr)) ∧ Below w.heap.size w w' := by
  have b1 := (Below.refl w.heap.size w).alloc (Nat.le_refl _) (.cells #[.string key, .int .i64 rk, .int .i64 ca, .int .i64 pe, .int .i64 tg, .int .i64 rq, .bool dn, .int .i64 fr, .int .i64 sq] 35)
  have k1 := Blk.new w 35 #[.string key, .int .i64 rk, .int .i64 ca, .int .i64 pe, .int .i64 tg, .int .i64 rq, .bool dn, .int .i64 fr, .int .i64 sq]
  obtain ⟨w1, hw1⟩ : ∃ z, w.alloc (.cells #[.string key, .int .i64 rk, .int .i64 ca, .int .i64 pe, .int .i64 tg, .int .i64 rq, .bool dn, .int .i64 fr, .int .i64 sq] 35) = z := ⟨_, rfl⟩
  obtain ⟨X, hX⟩ : ∃ z, w.heap.size = z := ⟨_, rfl⟩
  have s1 : w1.heap.size = w.heap.size + 1 := by rw [← hw1]; simp
  rw [hw1] at b1 k1
  have b2 := (Below.refl w1.heap.size w1).alloc (Nat.le_refl _) (.cells #[.string xk, .int .i64 xf, .int .i64 xt, .int .i64 xc, .int .i64 xg, .int .i64 xv, .int .i64 xz, .bool xb] 33)
  have k2 := Blk.new w1 33 #[.string xk, .int .i64 xf, .int .i64 xt, .int .i64 xc, .int .i64 xg, .int .i64 xv, .int .i64 xz, .bool xb]
  obtain ⟨w2, hw2⟩ : ∃ z, w1.alloc (.cells #[.string xk, .int .i64 xf, .int .i64 xt, .int .i64 xc, .int .i64 xg, .int .i64 xv, .int .i64 xz, .bool xb] 33) = z := ⟨_, rfl⟩
  rw [hw2] at b2 k2
  rw [hX] at k1 s1
  rw [s1] at k2
  have KX := hide (k1.below b2 (by omega))
  have KY := hide k2
  have B2 : Hid (Below w.heap.size w w2) := hide (b1.trans (b2.mono (by omega)))
  have HD := hide (h.below B2.out)
  have HQ := hide (hq.below B2.out)
  have HW1 := hide hw1
  have HW2 := hide hw2
  have HX := hide hX
  have HL := hide hl
  have HLQ := hide hlq
  have FC := hide (fun w => fits_b key rk ca pe tg rq dn fr sq xk xf xt xc xg xv xz xb w)
  clear hw1 hw2 hX b1 b2 k1 k2 s1 h hq hl hlq
  go_enter Try.func82, Try.ntmps82
  go_upto_region 1 with (fail)
  rw [HW1.out, HX.out, HW2.out]
  have x0 : w2.cell? ⟨X, 0, none⟩ = some (.string key) := KX.out.cell 0
  have x1 : w2.cell? ⟨X, 1, none⟩ = some (.int .i64 rk) := KX.out.cell 1
  have x2 : w2.cell? ⟨X, 2, none⟩ = some (.int .i64 ca) := KX.out.cell 2
  have x3 : w2.cell? ⟨X, 3, none⟩ = some (.int .i64 pe) := KX.out.cell 3
  have x4 : w2.cell? ⟨X, 4, none⟩ = some (.int .i64 tg) := KX.out.cell 4
  have x5 : w2.cell? ⟨X, 5, none⟩ = some (.int .i64 rq) := KX.out.cell 5
  have x6 : w2.cell? ⟨X, 6, none⟩ = some (.bool dn) := KX.out.cell 6
  have x7 : w2.cell? ⟨X, 7, none⟩ = some (.int .i64 fr) := KX.out.cell 7
  have x8 : w2.cell? ⟨X, 8, none⟩ = some (.int .i64 sq) := KX.out.cell 8
  have y0 : w2.cell? ⟨(X + 1), 0, none⟩ = some (.string xk) := KY.out.cell 0
  have y1 : w2.cell? ⟨(X + 1), 1, none⟩ = some (.int .i64 xf) := KY.out.cell 1
  have y2 : w2.cell? ⟨(X + 1), 2, none⟩ = some (.int .i64 xt) := KY.out.cell 2
  have y3 : w2.cell? ⟨(X + 1), 3, none⟩ = some (.int .i64 xc) := KY.out.cell 3
  have y4 : w2.cell? ⟨(X + 1), 4, none⟩ = some (.int .i64 xg) := KY.out.cell 4
  have y5 : w2.cell? ⟨(X + 1), 5, none⟩ = some (.int .i64 xv) := KY.out.cell 5
  have y6 : w2.cell? ⟨(X + 1), 6, none⟩ = some (.int .i64 xz) := KY.out.cell 6
  have y7 : w2.cell? ⟨(X + 1), 7, none⟩ = some (.bool xb) := KY.out.cell 7
  cases xb with
  | true =>
    have FE : Hid (itsB rl l ⟨key, rk, ca, pe, tg, rq, dn, fr, sq⟩ ⟨xk, xf, xt, xc, xg, xv, xz, true⟩ pr = false) := hide (by unfold itsB; rfl)
    clear FC
    go_wp2_with fail
    go_ret
    exact ⟨by rw [FE.out]; rfl, B2.out⟩
  | false =>
    obtain ⟨fb, hfb⟩ : ∃ z, fitsB ⟨key, rk, ca, pe, tg, rq, dn, fr, sq⟩ ⟨xk, xf, xt, xc, xg, xv, xz, false⟩ = z := ⟨_, rfl⟩
    rw [hfb] at FC
    cases fb with
    | false =>
      have FE : Hid (itsB rl l ⟨key, rk, ca, pe, tg, rq, dn, fr, sq⟩ ⟨xk, xf, xt, xc, xg, xv, xz, false⟩ pr = false) := hide (by unfold itsB; rw [hfb]; rfl)
      clear hfb
      go_wp2_with fail
      refine (FC.out _).mono ?_
      rintro e w3 ⟨rfl, hb3⟩
      have B3 := hide (B2.out.trans (hb3.mono B2.out.size))
      clear hb3
      go_wp2_with fail
      go_ret
      exact ⟨by rw [FE.out]; rfl, B3.out⟩
    | true =>
      have HFB := hide hfb
      clear hfb
      go_wp2_with fail
      refine (FC.out _).mono ?_
      rintro e w3 ⟨rfl, hb3⟩
      have B3 := hide (B2.out.trans (hb3.mono B2.out.size))
      have HD3 := hide (HD.out.below hb3)
      have HQ3 := hide (HQ.out.below hb3)
      have KX3 := hide (KX.out.below hb3 KX.out.lt)
      have KY3 := hide (KY.out.below hb3 KY.out.lt)
      have AC := hide (Ahead_b HQ3.out.st ⟨xk, xf, xt, xc, xg, xv, xz, false⟩ HLQ.out)
      clear hb3 x0 x1 x2 x3 x4 x5 x6 x7 x8 y0 y1 y2 y3 y4 y5 y6 y7
      have v0 : w3.cell? ⟨(X + 1), 0, none⟩ = some (.string xk) := KY3.out.cell 0
      have v1 : w3.cell? ⟨(X + 1), 1, none⟩ = some (.int .i64 xf) := KY3.out.cell 1
      have v2 : w3.cell? ⟨(X + 1), 2, none⟩ = some (.int .i64 xt) := KY3.out.cell 2
      have v3 : w3.cell? ⟨(X + 1), 3, none⟩ = some (.int .i64 xc) := KY3.out.cell 3
      have v4 : w3.cell? ⟨(X + 1), 4, none⟩ = some (.int .i64 xg) := KY3.out.cell 4
      have v5 : w3.cell? ⟨(X + 1), 5, none⟩ = some (.int .i64 xv) := KY3.out.cell 5
      have v6 : w3.cell? ⟨(X + 1), 6, none⟩ = some (.int .i64 xz) := KY3.out.cell 6
      have v7 : w3.cell? ⟨(X + 1), 7, none⟩ = some (.bool false) := KY3.out.cell 7
      go_wp2_with fail
      refine AC.out.mono ?_
      rintro e w4 ⟨Aa, ca1, rfl, hoa, hb4⟩
      have AHL : (aheadL l (Msg.who ⟨xk, xf, xt, xc, xg, xv, xz, false⟩)).length ≤ 1000 := by
        unfold aheadL
        split
        · exact Nat.zero_le _
        · refine Nat.le_trans (List.length_filter_le _ _) ?_
          rw [List.length_take]
          have := HLQ.out
          omega
      obtain ⟨ah, hah⟩ : ∃ z, aheadL l (Msg.who ⟨xk, xf, xt, xc, xg, xv, xz, false⟩) = z := ⟨_, rfl⟩
      rw [hah] at hoa AHL
      rw [hah]
      obtain ⟨na, hna⟩ : ∃ z, ah.length = z := ⟨_, rfl⟩
      rw [hna] at hoa AHL
      rw [hna]
      have B4 := hide (B3.out.trans (hb4.mono B3.out.size))
      have HD4 := hide (HD3.out.below hb4)
      have KX4 := hide (KX3.out.below hb4 KX3.out.lt)
      have KY4 := hide (KY3.out.below hb4 KY3.out.lt)
      have MA := hide (MRow.of_own hoa hna)
      have HAH := hide hah
      have HNA := hide hna
      have HAL := hide AHL
      clear hoa hb4 hah hna AHL AC v0 v1 v2 v3 v4 v5 v6 v7
      go_wp2_with fail
      go_loopw [12] (fun v12 wr => ∃ i : Nat, i ≤ na ∧ v12 = .int .i64 i ∧ Hid ((ah.take i).all (fun y => !fitsB ⟨key, rk, ca, pe, tg, rq, dn, fr, sq⟩ y) = true) ∧ Hid (Below w4.heap.size w4 wr)) (fun v12 _ => na - (RowKit.intOf v12).toNat)
      case atStart => exact ⟨0, Nat.zero_le _, rfl, hide rfl, hide (Below.refl _ _)⟩
      case round =>
        obtain ⟨i, hi, rfl, HAB, HB⟩ := hrel
        rename World => wr
        have hna1 := HAL.out
        have KXr := hide (KX4.out.below HB.out KX4.out.lt)
        have KYr := hide (KY4.out.below HB.out KY4.out.lt)
        have Br := hide (B4.out.trans (HB.out.mono B4.out.size))
        by_cases hlt : i < na
        · have hltI : (i : Int) < (na : Int) := by omega
          have hi0 : (0 : Int) ≤ (i : Int) := by omega
          obtain ⟨⟨yk, yf, yt, yc, yg, yv, yz, yb⟩, hm⟩ : ∃ m, ah[i]? = some m := ⟨_, List.getElem?_eq_getElem (by rw [HNA.out]; exact hlt)⟩
          obtain ⟨g, rfl, hg, hit⟩ := (MA.out.below HB.out).it i _ hm
          have NE : Nonempty (BelowOf wr) := ⟨⟨wr, Below.refl _ _⟩⟩
          have e0 : ∀ z : BelowOf wr, z.world.cell? ⟨X, 0, none⟩ = some (.string key) := fun z => z.cell KXr.out.lt (KXr.out.cell 0)
          have e1 : ∀ z : BelowOf wr, z.world.cell? ⟨X, 1, none⟩ = some (.int .i64 rk) := fun z => z.cell KXr.out.lt (KXr.out.cell 1)
          have e2 : ∀ z : BelowOf wr, z.world.cell? ⟨X, 2, none⟩ = some (.int .i64 ca) := fun z => z.cell KXr.out.lt (KXr.out.cell 2)
          have e3 : ∀ z : BelowOf wr, z.world.cell? ⟨X, 3, none⟩ = some (.int .i64 pe) := fun z => z.cell KXr.out.lt (KXr.out.cell 3)
          have e4 : ∀ z : BelowOf wr, z.world.cell? ⟨X, 4, none⟩ = some (.int .i64 tg) := fun z => z.cell KXr.out.lt (KXr.out.cell 4)
          have e5 : ∀ z : BelowOf wr, z.world.cell? ⟨X, 5, none⟩ = some (.int .i64 rq) := fun z => z.cell KXr.out.lt (KXr.out.cell 5)
          have e6 : ∀ z : BelowOf wr, z.world.cell? ⟨X, 6, none⟩ = some (.bool dn) := fun z => z.cell KXr.out.lt (KXr.out.cell 6)
          have e7 : ∀ z : BelowOf wr, z.world.cell? ⟨X, 7, none⟩ = some (.int .i64 fr) := fun z => z.cell KXr.out.lt (KXr.out.cell 7)
          have e8 : ∀ z : BelowOf wr, z.world.cell? ⟨X, 8, none⟩ = some (.int .i64 sq) := fun z => z.cell KXr.out.lt (KXr.out.cell 8)
          have o0 : ∀ z : BelowOf wr, z.world.cell? ⟨g, i * 8, none⟩ = some (.string yk) := fun z => z.cell hg (hit 0 _ rfl)
          have o1 : ∀ z : BelowOf wr, z.world.cell? ⟨g, i * 8 + 1, none⟩ = some (.int .i64 yf) := fun z => z.cell hg (hit 1 _ rfl)
          have o2 : ∀ z : BelowOf wr, z.world.cell? ⟨g, i * 8 + 2, none⟩ = some (.int .i64 yt) := fun z => z.cell hg (hit 2 _ rfl)
          have o3 : ∀ z : BelowOf wr, z.world.cell? ⟨g, i * 8 + 3, none⟩ = some (.int .i64 yc) := fun z => z.cell hg (hit 3 _ rfl)
          have o4 : ∀ z : BelowOf wr, z.world.cell? ⟨g, i * 8 + 4, none⟩ = some (.int .i64 yg) := fun z => z.cell hg (hit 4 _ rfl)
          have o5 : ∀ z : BelowOf wr, z.world.cell? ⟨g, i * 8 + 5, none⟩ = some (.int .i64 yv) := fun z => z.cell hg (hit 5 _ rfl)
          have o6 : ∀ z : BelowOf wr, z.world.cell? ⟨g, i * 8 + 6, none⟩ = some (.int .i64 yz) := fun z => z.cell hg (hit 6 _ rfl)
          have o7 : ∀ z : BelowOf wr, z.world.cell? ⟨g, i * 8 + 7, none⟩ = some (.bool yb) := fun z => z.cell hg (hit 7 _ rfl)
          have FC2 := hide (fun w => fits_b key rk ca pe tg rq dn fr sq yk yf yt yc yg yv yz yb w)
          obtain ⟨fb, hfb⟩ : ∃ z, fitsB ⟨key, rk, ca, pe, tg, rq, dn, fr, sq⟩ ⟨yk, yf, yt, yc, yg, yv, yz, yb⟩ = z := ⟨_, rfl⟩
          rw [hfb] at FC2
          have HM := hide hm
          have HFB2 := hide hfb
          have HLT := hide hlt
          clear hm hg hit hfb hlt
          go_upto_region 7 with (fail)
          refine wp_region_quiet_below (by kernel_rfl) (by kernel_rfl) ?_
          repeat (go_big_quiet_step (first
            | (go_at_call 22; refine calls_below (FC2.out _))))
          refine wpQuiet_nil ?_
          rintro Wq ⟨⟨_, hq⟩, rfl⟩
          have HBQ := hide (HB.out.trans (hq.mono HB.out.size))
          have BQ := hide (Br.out.trans (hq.mono Br.out.size))
          clear hq e0 e1 e2 e3 e4 e5 e6 e7 e8 o0 o1 o2 o3 o4 o5 o6 o7 NE
          cases fb with
          | true =>
            have FE : Hid (itsB rl l ⟨key, rk, ca, pe, tg, rq, dn, fr, sq⟩ ⟨xk, xf, xt, xc, xg, xv, xz, false⟩ pr = false) := hide (by
              unfold itsB
              rw [HAH.out]
              have : (ah.all fun y => !fitsB ⟨key, rk, ca, pe, tg, rq, dn, fr, sq⟩ y) = false := by
                rw [List.all_eq_false]
                exact ⟨_, List.mem_of_getElem? HM.out, by rw [HFB2.out]; decide⟩
              rw [this]
              simp)
            go_wp2_with fail
            go_ret
            exact ⟨by rw [FE.out]; rfl, BQ.out⟩
          | false =>
            have HAB2 : Hid ((ah.take (i + 1)).all (fun y => !fitsB ⟨key, rk, ca, pe, tg, rq, dn, fr, sq⟩ y) = true) := hide (by
              obtain ⟨h1, e1⟩ := List.getElem?_eq_some_iff.1 HM.out
              rw [List.take_succ_eq_append_getElem h1, List.all_append, HAB.out, e1]
              simp [HFB2.out])
            go_wp2_with fail
            go_roundw
            case rel => exact ⟨i + 1, HLT.out, by go_num, HAB2, HBQ⟩
            case measure => have := HLT.out; simp [RowKit.intOf] <;> omega
        · have hltI : ¬ (i : Int) < (na : Int) := by omega
          have HAA : Hid ((ah.all fun y => !fitsB ⟨key, rk, ca, pe, tg, rq, dn, fr, sq⟩ y) = true) := hide (by have h := HAB.out; rwa [List.take_of_length_le (by rw [HNA.out]; omega)] at h)
          have WC := hide (waiting_b (HD4.out.below HB.out) rk HL.out)
          have x1 : wr.cell? ⟨X, 1, none⟩ = some (.int .i64 rk) := KXr.out.cell 1
          clear hlt hi
          go_wp2_with fail
          refine WC.out.mono ?_
          rintro e w5 ⟨Aw, cw, rfl, how, hb5⟩
          have WGL : (waitG rl rk).length ≤ 1000 := Nat.le_trans (List.length_filter_le _ _) HL.out
          obtain ⟨wl, hwl⟩ : ∃ z, waitG rl rk = z := ⟨_, rfl⟩
          rw [hwl] at how WGL
          rw [hwl]
          obtain ⟨nl, hnl⟩ : ∃ z, wl.length = z := ⟨_, rfl⟩
          rw [hnl] at how WGL
          rw [hnl]
          have B5 := hide (Br.out.trans (hb5.mono Br.out.size))
          have KX5 := hide (KXr.out.below hb5 KXr.out.lt)
          have KY5 := hide (KYr.out.below hb5 KYr.out.lt)
          have RW := hide (RRow.of_own how hnl)
          have HWL := hide hwl
          have HNL := hide hnl
          have HGL := hide WGL
          clear how hb5 hwl hnl WGL WC x1 HAB HB
          go_wp2_with fail
          go_loopw [14] (fun v14 wr => ∃ i : Nat, i ≤ nl ∧ v14 = .int .i64 i ∧ Hid ((wl.take i).all (fun x => !((pr || decide (x.ca < ca)) && fitsB x ⟨xk, xf, xt, xc, xg, xv, xz, false⟩)) = true) ∧ Hid (Below w5.heap.size w5 wr)) (fun v14 _ => nl - (RowKit.intOf v14).toNat)
          case atStart => exact ⟨0, Nat.zero_le _, rfl, hide rfl, hide (Below.refl _ _)⟩
          case round =>
            clear hltI
            obtain ⟨j, hj, rfl, HAB, HB⟩ := hrel
            rename World => wt
            have hnl1 := HGL.out
            have KXt := hide (KX5.out.below HB.out KX5.out.lt)
            have KYt := hide (KY5.out.below HB.out KY5.out.lt)
            have Bt := hide (B5.out.trans (HB.out.mono B5.out.size))
            by_cases hlt : j < nl
            rotate_left
            · have hltI : ¬ (j : Int) < (nl : Int) := by omega
              have FE : Hid (itsB rl l ⟨key, rk, ca, pe, tg, rq, dn, fr, sq⟩ ⟨xk, xf, xt, xc, xg, xv, xz, false⟩ pr = true) := hide (by
                have h := HAB.out
                rw [List.take_of_length_le (by rw [HNL.out]; omega)] at h
                unfold itsB
                rw [HFB.out, HAH.out, HAA.out, HWL.out, h]
                rfl)
              go_wp2_with fail
              go_ret
              exact ⟨by rw [FE.out]; rfl, Bt.out⟩
            have hltI : (j : Int) < (nl : Int) := by omega
            have hj0 : (0 : Int) ≤ (j : Int) := by omega
            obtain ⟨⟨mk, mr, mc, mp, mt, mq, md, mf, ms⟩, hm⟩ : ∃ m, wl[j]? = some m := ⟨_, List.getElem?_eq_getElem (by rw [HNL.out]; exact hlt)⟩
            obtain ⟨g, rfl, hg, hit⟩ := (RW.out.below HB.out).it j _ hm
            have NE : Nonempty (BelowOf wt) := ⟨⟨wt, Below.refl _ _⟩⟩
            have n0 : ∀ z : BelowOf wt, z.world.cell? ⟨g, j * 9, none⟩ = some (.string mk) := fun z => z.cell hg (hit 0 _ rfl)
            have n1 : ∀ z : BelowOf wt, z.world.cell? ⟨g, j * 9 + 1, none⟩ = some (.int .i64 mr) := fun z => z.cell hg (hit 1 _ rfl)
            have n2 : ∀ z : BelowOf wt, z.world.cell? ⟨g, j * 9 + 2, none⟩ = some (.int .i64 mc) := fun z => z.cell hg (hit 2 _ rfl)
            have n3 : ∀ z : BelowOf wt, z.world.cell? ⟨g, j * 9 + 3, none⟩ = some (.int .i64 mp) := fun z => z.cell hg (hit 3 _ rfl)
            have n4 : ∀ z : BelowOf wt, z.world.cell? ⟨g, j * 9 + 4, none⟩ = some (.int .i64 mt) := fun z => z.cell hg (hit 4 _ rfl)
            have n5 : ∀ z : BelowOf wt, z.world.cell? ⟨g, j * 9 + 5, none⟩ = some (.int .i64 mq) := fun z => z.cell hg (hit 5 _ rfl)
            have n6 : ∀ z : BelowOf wt, z.world.cell? ⟨g, j * 9 + 6, none⟩ = some (.bool md) := fun z => z.cell hg (hit 6 _ rfl)
            have n7 : ∀ z : BelowOf wt, z.world.cell? ⟨g, j * 9 + 7, none⟩ = some (.int .i64 mf) := fun z => z.cell hg (hit 7 _ rfl)
            have n8 : ∀ z : BelowOf wt, z.world.cell? ⟨g, j * 9 + 8, none⟩ = some (.int .i64 ms) := fun z => z.cell hg (hit 8 _ rfl)
            have e2 : ∀ z : BelowOf wt, z.world.cell? ⟨X, 2, none⟩ = some (.int .i64 ca) := fun z => z.cell KXt.out.lt (KXt.out.cell 2)
            have y0 : ∀ z : BelowOf wt, z.world.cell? ⟨(X + 1), 0, none⟩ = some (.string xk) := fun z => z.cell KYt.out.lt (KYt.out.cell 0)
            have y1 : ∀ z : BelowOf wt, z.world.cell? ⟨(X + 1), 1, none⟩ = some (.int .i64 xf) := fun z => z.cell KYt.out.lt (KYt.out.cell 1)
            have y2 : ∀ z : BelowOf wt, z.world.cell? ⟨(X + 1), 2, none⟩ = some (.int .i64 xt) := fun z => z.cell KYt.out.lt (KYt.out.cell 2)
            have y3 : ∀ z : BelowOf wt, z.world.cell? ⟨(X + 1), 3, none⟩ = some (.int .i64 xc) := fun z => z.cell KYt.out.lt (KYt.out.cell 3)
            have y4 : ∀ z : BelowOf wt, z.world.cell? ⟨(X + 1), 4, none⟩ = some (.int .i64 xg) := fun z => z.cell KYt.out.lt (KYt.out.cell 4)
            have y5 : ∀ z : BelowOf wt, z.world.cell? ⟨(X + 1), 5, none⟩ = some (.int .i64 xv) := fun z => z.cell KYt.out.lt (KYt.out.cell 5)
            have y6 : ∀ z : BelowOf wt, z.world.cell? ⟨(X + 1), 6, none⟩ = some (.int .i64 xz) := fun z => z.cell KYt.out.lt (KYt.out.cell 6)
            have y7 : ∀ z : BelowOf wt, z.world.cell? ⟨(X + 1), 7, none⟩ = some (.bool false) := fun z => z.cell KYt.out.lt (KYt.out.cell 7)
            have FC2 := hide (fun w => fits_b mk mr mc mp mt mq md mf ms xk xf xt xc xg xv xz false w)
            obtain ⟨fb, hfb⟩ : ∃ z, fitsB ⟨mk, mr, mc, mp, mt, mq, md, mf, ms⟩ ⟨xk, xf, xt, xc, xg, xv, xz, false⟩ = z := ⟨_, rfl⟩
            rw [hfb] at FC2
            have HM := hide hm
            have HFB2 := hide hfb
            have HLT := hide hlt
            have HSTP : Hid ((wl.take (j + 1)).all (fun x => !((pr || decide (x.ca < ca)) && fitsB x ⟨xk, xf, xt, xc, xg, xv, xz, false⟩)) = !((pr || decide (mc < ca)) && fb)) := hide (by
              obtain ⟨h1, e1⟩ := List.getElem?_eq_some_iff.1 hm
              rw [List.take_succ_eq_append_getElem h1, List.all_append, HAB.out, e1]
              simp [hfb])
            clear hm hg hit hfb hlt
            obtain ⟨gd, hgd⟩ : ∃ z, (pr || decide (mc < ca)) = z := ⟨_, rfl⟩
            rw [hgd] at HSTP
            have HGD := hide hgd
            have hcases : (pr = true ∧ gd = true) ∨ (pr = false ∧ mc < ca ∧ gd = true) ∨ (pr = false ∧ ¬ mc < ca ∧ gd = false) := by
              cases pr with
              | true => exact .inl ⟨rfl, by rw [← hgd]; rfl⟩
              | false =>
                by_cases h : mc < ca
                · exact .inr (.inl ⟨rfl, h, by rw [← hgd]; simp [h]⟩)
                · exact .inr (.inr ⟨rfl, h, by rw [← hgd]; simp [h]⟩)
            clear hgd
            rcases hcases with ⟨rfl, rfl⟩ | ⟨rfl, hlc, rfl⟩ | ⟨rfl, hlc, rfl⟩
            · go_upto_region 13 with (fail)
              refine wp_region_quiet_below (by kernel_rfl) (by kernel_rfl) ?_
              repeat (go_big_quiet_step (first
                | (go_at_call 22; refine calls_below (FC2.out _))))
              refine wpQuiet_nil ?_
              rintro Wq ⟨⟨_, hq⟩, rfl⟩
              have HBQ := hide (HB.out.trans (hq.mono HB.out.size))
              have BQ := hide (Bt.out.trans (hq.mono Bt.out.size))
              clear hq n0 n1 n2 n3 n4 n5 n6 n7 n8 e2 y0 y1 y2 y3 y4 y5 y6 y7 NE
              cases fb with
              | true =>
                have FE : Hid (itsB rl l ⟨key, rk, ca, pe, tg, rq, dn, fr, sq⟩ ⟨xk, xf, xt, xc, xg, xv, xz, false⟩ true = false) := hide (by
                  have h : (wl.all fun x => !((true || decide (x.ca < ca)) && fitsB x ⟨xk, xf, xt, xc, xg, xv, xz, false⟩)) = false := by
                    rw [List.all_eq_false]
                    refine ⟨_, List.mem_of_getElem? HM.out, ?_⟩
                    rw [HFB2.out]
                    simp only [HGD.out]
                    decide
                  unfold itsB
                  rw [HWL.out, h]
                  simp)
                go_wp2_with fail
                go_ret
                exact ⟨by rw [FE.out]; rfl, BQ.out⟩
              | false =>
                go_wp2_with fail
                go_roundw
                case rel => exact ⟨j + 1, HLT.out, by go_num, hide (by rw [HSTP.out]; rfl), HBQ⟩
                case measure => have := HLT.out; simp [RowKit.intOf] <;> omega
            · have t1 : decide (mc < ca) = true := decide_eq_true hlc
              go_upto_region 13 with (fail)
              refine wp_region_quiet_below (by kernel_rfl) (by kernel_rfl) ?_
              repeat (go_big_quiet_step (first
                | (go_at_call 22; refine calls_below (FC2.out _))))
              refine wpQuiet_nil ?_
              rintro Wq ⟨⟨_, hq⟩, rfl⟩
              have HBQ := hide (HB.out.trans (hq.mono HB.out.size))
              have BQ := hide (Bt.out.trans (hq.mono Bt.out.size))
              clear hq n0 n1 n2 n3 n4 n5 n6 n7 n8 e2 y0 y1 y2 y3 y4 y5 y6 y7 NE
              cases fb with
              | true =>
                have FE : Hid (itsB rl l ⟨key, rk, ca, pe, tg, rq, dn, fr, sq⟩ ⟨xk, xf, xt, xc, xg, xv, xz, false⟩ false = false) := hide (by
                  have h : (wl.all fun x => !((false || decide (x.ca < ca)) && fitsB x ⟨xk, xf, xt, xc, xg, xv, xz, false⟩)) = false := by
                    rw [List.all_eq_false]
                    refine ⟨_, List.mem_of_getElem? HM.out, ?_⟩
                    rw [HFB2.out]
                    simp only [HGD.out]
                    decide
                  unfold itsB
                  rw [HWL.out, h]
                  simp)
                go_wp2_with fail
                go_ret
                exact ⟨by rw [FE.out]; rfl, BQ.out⟩
              | false =>
                go_wp2_with fail
                go_roundw
                case rel => exact ⟨j + 1, HLT.out, by go_num, hide (by rw [HSTP.out]; rfl), HBQ⟩
                case measure => have := HLT.out; simp [RowKit.intOf] <;> omega
            · have t1 : decide (mc < ca) = false := decide_eq_false hlc
              go_upto_region 13 with (fail)
              refine wp_region_quiet_below (by kernel_rfl) (by kernel_rfl) ?_
              repeat (go_big_quiet_step (first
                | (go_at_call 22; refine calls_below (FC2.out _))))
              refine wpQuiet_nil ?_
              rintro Wq ⟨⟨_, hq⟩, rfl⟩
              have HBQ := hide (HB.out.trans (hq.mono HB.out.size))
              have BQ := hide (Bt.out.trans (hq.mono Bt.out.size))
              clear hq n0 n1 n2 n3 n4 n5 n6 n7 n8 e2 y0 y1 y2 y3 y4 y5 y6 y7 NE
              go_wp2_with fail
              go_roundw
              case rel => exact ⟨j + 1, HLT.out, by go_num, hide (by rw [HSTP.out]; rfl), HBQ⟩
              case measure => have := HLT.out; simp [RowKit.intOf] <;> omega
end Po
end Go.Proofs.Ytonmojinijpneaa
end
section
/- The document's all, May, Probe. -/
namespace Go.Proofs.Ytonmojinijpneaa
open Go Go.Joins Go.ChangeShapes Go.WideShapes Go.RowKit Go.Deep Go.Lib Go.Proofs.Ytonmojinijpneaa.Qu
set_option linter.unusedVariables false
set_option linter.unusedSimpArgs false
namespace Po
/-- What Left of the document's queue is known to do. -/
def LeftSaid : Prop := ∀ {w : World} {p : Nat} {A : Option Addr} {l : List Msg} (_ : RAt w p A l) (_ : l.length ≤ 1000),
    Calls Try.prog 20 #[.pointer (some ⟨p, 0, none⟩)] w fun e w' => ∃ A1 c1 K, e = .returned (.slice A1 K.length c1) ∧ IsLeft l K ∧ w'.ownsRow w.heap.size 33 8 (.slice A1 K.length c1) K.length (msgCs K) ∧ Below w.heap.size w w'
def oneG (rl : List Rc) (l LF : List Msg) (r : Rc) (pr : Bool) (f : Int) : List Msg := LF.filter fun m => decide (m.fr = f) && itsB rl l r m pr
def allTo (rl : List Rc) (l LF : List Msg) (r : Rc) (pr : Bool) (f : Nat) : List Msg := (upto f).flatMap (oneG rl l LF r pr)
theorem allTo_step (rl : List Rc) (l LF : List Msg) (r : Rc) (pr : Bool) (f : Nat) : allTo rl l LF r pr (f + 1) = allTo rl l LF r pr f ++ oneG rl l LF r pr f := by
  unfold allTo upto
  rw [List.range_succ, List.map_append, List.flatMap_append, List.map_singleton, List.flatMap_singleton]
  rfl
theorem allTo_len (rl : List Rc) (l LF : List Msg) (r : Rc) (pr : Bool) : ∀ f : Nat, (allTo rl l LF r pr f).length ≤ f * LF.length
  | 0 => Nat.zero_le _
  | f + 1 => by
    rw [allTo_step, List.length_append, Nat.succ_mul]
    have h1 := allTo_len rl l LF r pr f
    have h2 : (oneG rl l LF r pr f).length ≤ LF.length := List.length_filter_le _ _
    omega
theorem one_take {rl : List Rc} {l LF : List Msg} {r : Rc} {pr : Bool} {f : Int} {i : Nat} {m : Msg} (h : LF[i]? = some m) : oneG rl l (LF.take (i + 1)) r pr f = oneG rl l (LF.take i) r pr f ++ if (decide (m.fr = f) && itsB rl l r m pr) = true then [m] else [] := by
  obtain ⟨h1, e1⟩ := List.getElem?_eq_some_iff.1 h
  unfold oneG
  rw [List.take_succ_eq_append_getElem h1, List.filter_append, e1]
  congr 1
  by_cases hc : (decide (m.fr = f) && itsB rl l r m pr) = true
  · rw [if_pos hc]
    simp only [List.filter_cons, List.filter_nil]
    rw [if_pos hc]
  · rw [if_neg hc]
    simp only [List.filter_cons, List.filter_nil]
    rw [if_neg hc]
set_option maxRecDepth 100000 in
set_option maxHeartbeats 16000000 in
theorem all_b {w : World} {p q : Nat} {A Aq : Option Addr} {rl : List Rc} {l : List Msg} (LS : LeftSaid) (h : DAt w p A rl) (hq : RAt w q Aq l) (hl : rl.length ≤ 1000) (hlq : l.length ≤ 1000) (key : ByteArray) (rk ca pe tg rq : Int) (dn : Bool) (fr sq : Int) (pr : Bool) :
    Calls Try.prog 59 #[.pointer (some ⟨p, 0, none⟩), .pointer (some ⟨q, 0, none⟩), .agg #[.string key, .int .i64 rk, .int .i64 ca, .int .i64 pe, .int .i64 tg, .int .i64 rq, .bool dn, .int .i64 fr, .int .i64 sq], .bool pr] w fun e w' => ∃ LF A1 c1, IsLeft l LF ∧ e = .returned (.slice A1 (allG rl l LF ⟨key, rk, ca, pe, tg, rq, dn, fr, sq⟩ pr).length c1) ∧ w'.ownsRow w.heap.size 33 8 (.slice A1 (allG rl l LF ⟨key, rk, ca, pe, tg, rq, dn, fr, sq⟩ pr).length c1) (allG rl l LF ⟨key, rk, ca, pe, tg, rq, dn, fr, sq⟩ pr).length (msgCs (allG rl l LF ⟨key, rk, ca, pe, tg, rq, dn, fr, sq⟩ pr)) ∧ Below w.heap.size w w' := by
  have b1 := (Below.refl w.heap.size w).alloc (Nat.le_refl _) (.cells #[.string key, .int .i64 rk, .int .i64 ca, .int .i64 pe, .int .i64 tg, .int .i64 rq, .bool dn, .int .i64 fr, .int .i64 sq] 35)
  have k1 := Blk.new w 35 #[.string key, .int .i64 rk, .int .i64 ca, .int .i64 pe, .int .i64 tg, .int .i64 rq, .bool dn, .int .i64 fr, .int .i64 sq]
  obtain ⟨w1, hw1⟩ : ∃ z, w.alloc (.cells #[.string key, .int .i64 rk, .int .i64 ca, .int .i64 pe, .int .i64 tg, .int .i64 rq, .bool dn, .int .i64 fr, .int .i64 sq] 35) = z := ⟨_, rfl⟩
  obtain ⟨X, hX⟩ : ∃ z, w.heap.size = z := ⟨_, rfl⟩
  rw [hw1] at b1 k1
  rw [hX] at k1
  have KX := hide k1
  have B1 := hide b1
  have HD := hide (h.below b1)
  have HQ := hide (hq.below b1)
  have HW1 := hide hw1
  have HX := hide hX
  have HL := hide hl
  have HLQ := hide hlq
  have LC := hide (LS HQ.out hlq)
  clear hw1 hX b1 k1 h hq hl hlq
  go_enter Try.func59, Try.ntmps59
  go_upto_region 1 with (fail)
  rw [HW1.out, HX.out]
  go_wp2_with fail
  refine LC.out.mono ?_
  rintro e w2 ⟨A0, c0, LF, rfl, hLF, hown, hb2⟩
  have HLF := hide hLF
  have hlen : LF.length ≤ 1000 := Nat.le_trans (isLeft_len hLF) HLQ.out
  obtain ⟨n, hn⟩ : ∃ z, LF.length = z := ⟨_, rfl⟩
  rw [hn] at hown hlen
  rw [hn]
  have MR := hide (MRow.of_own hown hn)
  have HN := hide hn
  have HNL := hide hlen
  have B2 := hide (B1.out.trans (hb2.mono B1.out.size))
  have HD2 := hide (HD.out.below hb2)
  have HQ2 := hide (HQ.out.below hb2)
  have KX2 := hide (KX.out.below hb2 KX.out.lt)
  clear hLF hown hlen hn hb2 LC
  go_wp2_with fail
  go_loopw [9, 11, 12] (fun v9 v11 _ wr => ∃ (f : Nat) (A1 : Option Addr) (c1 N : Nat), f ≤ 64 ∧ v11 = .int .i64 f ∧ v9 = .slice A1 N c1 ∧ Hid ((allTo rl l LF ⟨key, rk, ca, pe, tg, rq, dn, fr, sq⟩ pr f).length = N) ∧ Hid (wr.ownsRow w2.heap.size 33 8 (.slice A1 N c1) N (msgCs (allTo rl l LF ⟨key, rk, ca, pe, tg, rq, dn, fr, sq⟩ pr f))) ∧ Hid (Below w2.heap.size w2 wr)) (fun _ v11 _ _ => 64 - (RowKit.intOf v11).toNat)
  case atStart => exact ⟨0, none, 0, 0, Nat.zero_le _, rfl, rfl, hide rfl, hide ⟨rfl, .inl ⟨rfl, rfl⟩⟩, hide (Below.refl _ _)⟩
  case round =>
    obtain ⟨f, A1, c1, N, hf, rfl, rfl, HNN, HOW, HB⟩ := hrel
    rename World => wr
    have hnl := HNL.out
    by_cases hlf : f < 64
    rotate_left
    · obtain rfl : f = 64 := by omega
      have HE : Hid (allTo rl l LF ⟨key, rk, ca, pe, tg, rq, dn, fr, sq⟩ pr 64 = allG rl l LF ⟨key, rk, ca, pe, tg, rq, dn, fr, sq⟩ pr) := hide rfl
      rw [HE.out] at HNN HOW
      clear hlf hf
      go_wp2_with fail
      go_ret
      refine ⟨LF, A1, c1, HLF.out, by rw [HNN.out]; rfl, ?_, B2.out.trans (HB.out.mono B2.out.size)⟩
      rw [HNN.out]
      exact own_more HOW.out B2.out.size
    have hlfI : (f : Int) < 64 := by omega
    have HLT := hide hlf
    clear hlf
    go_wp2_with fail
    go_loopw [9, 12] (fun v9 v12 wt => ∃ (i : Nat) (A1 : Option Addr) (c1 N : Nat), i ≤ n ∧ v12 = .int .i64 i ∧ v9 = .slice A1 N c1 ∧ Hid ((allTo rl l LF ⟨key, rk, ca, pe, tg, rq, dn, fr, sq⟩ pr f ++ oneG rl l (LF.take i) ⟨key, rk, ca, pe, tg, rq, dn, fr, sq⟩ pr f).length = N) ∧ Hid (wt.ownsRow w2.heap.size 33 8 (.slice A1 N c1) N (msgCs (allTo rl l LF ⟨key, rk, ca, pe, tg, rq, dn, fr, sq⟩ pr f ++ oneG rl l (LF.take i) ⟨key, rk, ca, pe, tg, rq, dn, fr, sq⟩ pr f))) ∧ Hid (Below w2.heap.size w2 wt)) (fun _ v12 _ => n - (RowKit.intOf v12).toNat)
    case atStart =>
      have h0 : allTo rl l LF ⟨key, rk, ca, pe, tg, rq, dn, fr, sq⟩ pr f ++ oneG rl l (LF.take 0) ⟨key, rk, ca, pe, tg, rq, dn, fr, sq⟩ pr f = allTo rl l LF ⟨key, rk, ca, pe, tg, rq, dn, fr, sq⟩ pr f := by unfold oneG; simp
      exact ⟨0, A1, c1, N, Nat.zero_le _, rfl, rfl, hide (by rw [h0]; exact HNN.out), hide (by rw [h0]; exact HOW.out), HB⟩
    case round =>
      clear HNN HOW HB
      obtain ⟨i, A1, c1, N, hi, rfl, rfl, HNN, HOW, HB⟩ := hrel
      rename World => wt
      by_cases hlt : i < n
      rotate_left
      · have hltI : ¬ (i : Int) < (n : Int) := by omega
        have HE : Hid (allTo rl l LF ⟨key, rk, ca, pe, tg, rq, dn, fr, sq⟩ pr f ++ oneG rl l (LF.take i) ⟨key, rk, ca, pe, tg, rq, dn, fr, sq⟩ pr f = allTo rl l LF ⟨key, rk, ca, pe, tg, rq, dn, fr, sq⟩ pr (f + 1)) := hide (by rw [allTo_step, List.take_of_length_le (by rw [HN.out]; omega)])
        rw [HE.out] at HNN HOW
        go_wp2_with fail
        go_roundw
        case rel => exact ⟨f + 1, A1, c1, N, HLT.out, by go_num, rfl, HNN, HOW, HB⟩
        case measure => have := HLT.out; simp [RowKit.intOf] <;> omega
      have hltI : (i : Int) < (n : Int) := by omega
      have hi0 : (0 : Int) ≤ (i : Int) := by omega
      obtain ⟨⟨xk, xf, xt, xc, xg, xv, xz, xb⟩, hm⟩ : ∃ m, LF[i]? = some m := ⟨_, List.getElem?_eq_getElem (by rw [HN.out]; exact hlt)⟩
      obtain ⟨g, rfl, hg, hit⟩ := (MR.out.below HB.out).it i _ hm
      have HDt := hide (HD2.out.below HB.out)
      have HQt := hide (HQ2.out.below HB.out)
      have KXt := hide (KX2.out.below HB.out KX2.out.lt)
      have HST := hide (one_take (rl := rl) (l := l) (r := ⟨key, rk, ca, pe, tg, rq, dn, fr, sq⟩) (pr := pr) (f := (f : Int)) hm)
      have HLI := hide hlt
      have NE : Nonempty (BelowOf wt) := ⟨⟨wt, Below.refl _ _⟩⟩
      have m0 : ∀ z : BelowOf wt, z.world.cell? ⟨g, i * 8, none⟩ = some (.string xk) := fun z => z.cell hg (hit 0 _ rfl)
      have m1 : ∀ z : BelowOf wt, z.world.cell? ⟨g, i * 8 + 1, none⟩ = some (.int .i64 xf) := fun z => z.cell hg (hit 1 _ rfl)
      have m2 : ∀ z : BelowOf wt, z.world.cell? ⟨g, i * 8 + 2, none⟩ = some (.int .i64 xt) := fun z => z.cell hg (hit 2 _ rfl)
      have m3 : ∀ z : BelowOf wt, z.world.cell? ⟨g, i * 8 + 3, none⟩ = some (.int .i64 xc) := fun z => z.cell hg (hit 3 _ rfl)
      have m4 : ∀ z : BelowOf wt, z.world.cell? ⟨g, i * 8 + 4, none⟩ = some (.int .i64 xg) := fun z => z.cell hg (hit 4 _ rfl)
      have m5 : ∀ z : BelowOf wt, z.world.cell? ⟨g, i * 8 + 5, none⟩ = some (.int .i64 xv) := fun z => z.cell hg (hit 5 _ rfl)
      have m6 : ∀ z : BelowOf wt, z.world.cell? ⟨g, i * 8 + 6, none⟩ = some (.int .i64 xz) := fun z => z.cell hg (hit 6 _ rfl)
      have m7 : ∀ z : BelowOf wt, z.world.cell? ⟨g, i * 8 + 7, none⟩ = some (.bool xb) := fun z => z.cell hg (hit 7 _ rfl)
      have HG := hide hg
      have HIT := hide hit
      clear hm hit hg hlt
      by_cases hf1 : xf = (f : Int)
      rotate_left
      · have t1 : (xf == (f : Int)) = false := by simpa using hf1
        have HS1 : Hid (oneG rl l (LF.take (i + 1)) ⟨key, rk, ca, pe, tg, rq, dn, fr, sq⟩ pr f = oneG rl l (LF.take i) ⟨key, rk, ca, pe, tg, rq, dn, fr, sq⟩ pr f) := hide (by rw [HST.out, decide_eq_false hf1]; simp)
        clear hf1 HST
        go_upto_region 9 with (fail)
        refine wp_region_quiet_below (by kernel_rfl) (by kernel_rfl) ?_
        repeat (go_big_quiet_step (fail))
        refine wpQuiet_nil ?_
        rintro Wq ⟨⟨_, hq⟩, rfl⟩
        have HBQ := hide (HB.out.trans (hq.mono HB.out.size))
        have HOQ := hide (own_belowR HOW.out hq)
        clear hq m0 m1 m2 m3 m4 m5 m6 m7 NE
        go_wp2_with fail
        go_roundw
        case rel => exact ⟨i + 1, A1, c1, N, HLI.out, by go_num, rfl, by rw [HS1.out]; exact HNN, by rw [HS1.out]; exact HOQ, HBQ⟩
        case measure => have := HLI.out; simp [RowKit.intOf] <;> omega
      subst hf1
      have e0 : ∀ z : BelowOf wt, z.world.cell? ⟨X, 0, none⟩ = some (.string key) := fun z => z.cell KXt.out.lt (KXt.out.cell 0)
      have e1 : ∀ z : BelowOf wt, z.world.cell? ⟨X, 1, none⟩ = some (.int .i64 rk) := fun z => z.cell KXt.out.lt (KXt.out.cell 1)
      have e2 : ∀ z : BelowOf wt, z.world.cell? ⟨X, 2, none⟩ = some (.int .i64 ca) := fun z => z.cell KXt.out.lt (KXt.out.cell 2)
      have e3 : ∀ z : BelowOf wt, z.world.cell? ⟨X, 3, none⟩ = some (.int .i64 pe) := fun z => z.cell KXt.out.lt (KXt.out.cell 3)
      have e4 : ∀ z : BelowOf wt, z.world.cell? ⟨X, 4, none⟩ = some (.int .i64 tg) := fun z => z.cell KXt.out.lt (KXt.out.cell 4)
      have e5 : ∀ z : BelowOf wt, z.world.cell? ⟨X, 5, none⟩ = some (.int .i64 rq) := fun z => z.cell KXt.out.lt (KXt.out.cell 5)
      have e6 : ∀ z : BelowOf wt, z.world.cell? ⟨X, 6, none⟩ = some (.bool dn) := fun z => z.cell KXt.out.lt (KXt.out.cell 6)
      have e7 : ∀ z : BelowOf wt, z.world.cell? ⟨X, 7, none⟩ = some (.int .i64 fr) := fun z => z.cell KXt.out.lt (KXt.out.cell 7)
      have e8 : ∀ z : BelowOf wt, z.world.cell? ⟨X, 8, none⟩ = some (.int .i64 sq) := fun z => z.cell KXt.out.lt (KXt.out.cell 8)
      have IC := hide (fun z : BelowOf wt => its_b (HDt.out.below z.below) (HQt.out.below z.below) HL.out HLQ.out key rk ca pe tg rq dn fr sq xk (f : Int) xt xc xg xv xz xb pr)
      obtain ⟨fb, hfb⟩ : ∃ z, itsB rl l ⟨key, rk, ca, pe, tg, rq, dn, fr, sq⟩ ⟨xk, (f : Int), xt, xc, xg, xv, xz, xb⟩ pr = z := ⟨_, rfl⟩
      rw [hfb] at IC HST
      go_upto_region 9 with (fail)
      refine wp_region_quiet_below (by kernel_rfl) (by kernel_rfl) ?_
      repeat (go_big_quiet_step (first
        | (go_at_call 82; refine calls_below (IC.out _))))
      refine wpQuiet_nil ?_
      rintro Wq ⟨⟨_, hq⟩, rfl⟩
      have HBQ := hide (HB.out.trans (hq.mono HB.out.size))
      have HOQ := hide (own_belowR HOW.out hq)
      have HIQ := hide (fun k v (hk : (msgC ⟨xk, (f : Int), xt, xc, xg, xv, xz, xb⟩)[k]? = some v) => (hq.cell (p := ⟨g, i * 8 + k, none⟩) HG.out).trans (HIT.out k v hk))
      clear hq m0 m1 m2 m3 m4 m5 m6 m7 e0 e1 e2 e3 e4 e5 e6 e7 e8 NE
      cases fb with
      | false =>
        have HS1 : Hid (oneG rl l (LF.take (i + 1)) ⟨key, rk, ca, pe, tg, rq, dn, fr, sq⟩ pr f = oneG rl l (LF.take i) ⟨key, rk, ca, pe, tg, rq, dn, fr, sq⟩ pr f) := hide (by rw [HST.out, Bool.and_false]; simp)
        clear HST hfb
        go_wp2_with fail
        go_roundw
        case rel => exact ⟨i + 1, A1, c1, N, HLI.out, by go_num, rfl, by rw [HS1.out]; exact HNN, by rw [HS1.out]; exact HOQ, HBQ⟩
        case measure => have := HLI.out; simp [RowKit.intOf] <;> omega
      | true =>
        have HS1 : Hid (oneG rl l (LF.take (i + 1)) ⟨key, rk, ca, pe, tg, rq, dn, fr, sq⟩ pr f = oneG rl l (LF.take i) ⟨key, rk, ca, pe, tg, rq, dn, fr, sq⟩ pr f ++ [⟨xk, (f : Int), xt, xc, xg, xv, xz, xb⟩]) := hide (by rw [HST.out, decide_eq_true rfl]; simp)
        have hN : N ≤ 64 * 1000 + 1000 := by
          rw [← HNN.out, List.length_append]
          have h1 := allTo_len rl l LF ⟨key, rk, ca, pe, tg, rq, dn, fr, sq⟩ pr f
          have h2 : (oneG rl l (LF.take i) ⟨key, rk, ca, pe, tg, rq, dn, fr, sq⟩ pr f).length ≤ (LF.take i).length := List.length_filter_le _ _
          rw [List.length_take] at h2
          rw [HN.out] at h1 h2
          have h3 : f * n ≤ 64 * 1000 := Nat.mul_le_mul (by have := HLT.out; omega) hnl
          omega
        clear HST hfb
        have m0 : Wq.cell? ⟨g, i * 8, none⟩ = some (.string xk) := HIQ.out 0 _ rfl
        have m1 : Wq.cell? ⟨g, i * 8 + 1, none⟩ = some (.int .i64 (f : Int)) := HIQ.out 1 _ rfl
        have m2 : Wq.cell? ⟨g, i * 8 + 2, none⟩ = some (.int .i64 xt) := HIQ.out 2 _ rfl
        have m3 : Wq.cell? ⟨g, i * 8 + 3, none⟩ = some (.int .i64 xc) := HIQ.out 3 _ rfl
        have m4 : Wq.cell? ⟨g, i * 8 + 4, none⟩ = some (.int .i64 xg) := HIQ.out 4 _ rfl
        have m5 : Wq.cell? ⟨g, i * 8 + 5, none⟩ = some (.int .i64 xv) := HIQ.out 5 _ rfl
        have m6 : Wq.cell? ⟨g, i * 8 + 6, none⟩ = some (.int .i64 xz) := HIQ.out 6 _ rfl
        have m7 : Wq.cell? ⟨g, i * 8 + 7, none⟩ = some (.bool xb) := HIQ.out 7 _ rfl
        obtain ⟨A2, c2, w3, hrun, hown, hgr, _⟩ := push_m Wq w2.heap.size A1 c1 N _ ⟨xk, (f : Int), xt, xc, xg, xv, xz, xb⟩ HOQ.out HBQ.out.size (by omega)
        have HB3 := hide (HBQ.out.grown hgr HBQ.out.size fun k e => (own_block HOQ.out e).1)
        have HN3 := hide (show (allTo rl l LF ⟨key, rk, ca, pe, tg, rq, dn, fr, sq⟩ pr f ++ oneG rl l (LF.take (i + 1)) ⟨key, rk, ca, pe, tg, rq, dn, fr, sq⟩ pr f).length = N + 1 by rw [HS1.out, ← List.append_assoc, List.length_append, HNN.out]; rfl)
        have HO3 := hide (show w3.ownsRow w2.heap.size 33 8 (.slice A2 (N + 1) c2) (N + 1) (msgCs (allTo rl l LF ⟨key, rk, ca, pe, tg, rq, dn, fr, sq⟩ pr f ++ oneG rl l (LF.take (i + 1)) ⟨key, rk, ca, pe, tg, rq, dn, fr, sq⟩ pr f)) by rw [HS1.out, ← List.append_assoc, msgCs_app]; simpa [msgCs] using hown)
        have RUN := hide hrun
        clear hrun hown hgr hN
        go_wp2_with (at_builtin; refine Lib.wpList_append_run _ rfl _ _ 45 45 rfl _ _ rfl rfl _ _ RUN.out ?_)
        go_roundw
        case rel => exact ⟨i + 1, A2, c2, N + 1, HLI.out, by go_num, rfl, HN3, HO3, HB3⟩
        case measure => have := HLI.out; simp [RowKit.intOf] <;> omega
/-- The same, as the program finds them. -/
def allF (rl : List Rc) (l : List Msg) (r : Rc) (pr : Bool) : List Msg := freeL l r (if pr then rowL (lsOf rl) r.rk else (rowL (lsOf rl) r.rk).filter fun x => decide (x.ca < r.ca))
theorem all_d {w : World} {p q : Nat} {A Aq : Option Addr} {rl : List Rc} {l : List Msg} (LS : LeftSaid) (h : DAt w p A rl) (hq : RAt w q Aq l) (hok : okG rl) (hu : Uniq l) (hmay : ∀ m ∈ l, mayM' m) (hl : rl.length ≤ 1000) (hlq : l.length ≤ 1000) (key : ByteArray) (rk ca pe tg rq : Int) (dn : Bool) (fr sq : Int) (pr : Bool) :
    Calls Try.prog 59 #[.pointer (some ⟨p, 0, none⟩), .pointer (some ⟨q, 0, none⟩), .agg #[.string key, .int .i64 rk, .int .i64 ca, .int .i64 pe, .int .i64 tg, .int .i64 rq, .bool dn, .int .i64 fr, .int .i64 sq], .bool pr] w fun e w' => ∃ A1 c1, e = .returned (.slice A1 (allF rl l ⟨key, rk, ca, pe, tg, rq, dn, fr, sq⟩ pr).length c1) ∧ w'.ownsRow w.heap.size 33 8 (.slice A1 (allF rl l ⟨key, rk, ca, pe, tg, rq, dn, fr, sq⟩ pr).length c1) (allF rl l ⟨key, rk, ca, pe, tg, rq, dn, fr, sq⟩ pr).length (msgCs (allF rl l ⟨key, rk, ca, pe, tg, rq, dn, fr, sq⟩ pr)) ∧ Below w.heap.size w w' :=
  (all_b LS h hq hl hlq key rk ca pe tg rq dn fr sq pr).mono fun e w' hh => by
    obtain ⟨LF, A1, c1, hL, he, ho, hb⟩ := hh
    rw [all_free hok hu hmay hL ⟨key, rk, ca, pe, tg, rq, dn, fr, sq⟩ pr] at he ho
    exact ⟨A1, c1, he, ho, hb⟩
set_option maxRecDepth 100000 in
theorem probe_d {w : World} {p q : Nat} {A Aq : Option Addr} {rl : List Rc} {l : List Msg} (LS : LeftSaid) (h : DAt w p A rl) (hq : RAt w q Aq l) (hok : okG rl) (hu : Uniq l) (hmay : ∀ m ∈ l, mayM' m) (hl : rl.length ≤ 1000) (hlq : l.length ≤ 1000) (key : ByteArray) (rk ca pe tg rq : Int) (dn : Bool) (fr sq : Int) :
    Calls Try.prog 26 #[.pointer (some ⟨p, 0, none⟩), .pointer (some ⟨q, 0, none⟩), .agg #[.string key, .int .i64 rk, .int .i64 ca, .int .i64 pe, .int .i64 tg, .int .i64 rq, .bool dn, .int .i64 fr, .int .i64 sq]] w fun e w' => ∃ A1 c1, e = .returned (.slice A1 (freeL l ⟨key, rk, ca, pe, tg, rq, dn, fr, sq⟩ (rowL (lsOf rl) rk)).length c1) ∧ w'.ownsRow w.heap.size 33 8 (.slice A1 (freeL l ⟨key, rk, ca, pe, tg, rq, dn, fr, sq⟩ (rowL (lsOf rl) rk)).length c1) (freeL l ⟨key, rk, ca, pe, tg, rq, dn, fr, sq⟩ (rowL (lsOf rl) rk)).length (msgCs (freeL l ⟨key, rk, ca, pe, tg, rq, dn, fr, sq⟩ (rowL (lsOf rl) rk))) ∧ Below w.heap.size w w' := by
  have b1 := (Below.refl w.heap.size w).alloc (Nat.le_refl _) (.cells #[.string key, .int .i64 rk, .int .i64 ca, .int .i64 pe, .int .i64 tg, .int .i64 rq, .bool dn, .int .i64 fr, .int .i64 sq] 35)
  have k1 := Blk.new w 35 #[.string key, .int .i64 rk, .int .i64 ca, .int .i64 pe, .int .i64 tg, .int .i64 rq, .bool dn, .int .i64 fr, .int .i64 sq]
  have AC := hide (all_d LS (h.below b1) (hq.below b1) hok hu hmay hl hlq key rk ca pe tg rq dn fr sq true)
  have B1 := hide b1
  have x0 : (w.alloc (.cells #[.string key, .int .i64 rk, .int .i64 ca, .int .i64 pe, .int .i64 tg, .int .i64 rq, .bool dn, .int .i64 fr, .int .i64 sq] 35)).cell? ⟨w.heap.size, 0, none⟩ = some (.string key) := k1.cell 0
  have x1 : (w.alloc (.cells #[.string key, .int .i64 rk, .int .i64 ca, .int .i64 pe, .int .i64 tg, .int .i64 rq, .bool dn, .int .i64 fr, .int .i64 sq] 35)).cell? ⟨w.heap.size, 1, none⟩ = some (.int .i64 rk) := k1.cell 1
  have x2 : (w.alloc (.cells #[.string key, .int .i64 rk, .int .i64 ca, .int .i64 pe, .int .i64 tg, .int .i64 rq, .bool dn, .int .i64 fr, .int .i64 sq] 35)).cell? ⟨w.heap.size, 2, none⟩ = some (.int .i64 ca) := k1.cell 2
  have x3 : (w.alloc (.cells #[.string key, .int .i64 rk, .int .i64 ca, .int .i64 pe, .int .i64 tg, .int .i64 rq, .bool dn, .int .i64 fr, .int .i64 sq] 35)).cell? ⟨w.heap.size, 3, none⟩ = some (.int .i64 pe) := k1.cell 3
  have x4 : (w.alloc (.cells #[.string key, .int .i64 rk, .int .i64 ca, .int .i64 pe, .int .i64 tg, .int .i64 rq, .bool dn, .int .i64 fr, .int .i64 sq] 35)).cell? ⟨w.heap.size, 4, none⟩ = some (.int .i64 tg) := k1.cell 4
  have x5 : (w.alloc (.cells #[.string key, .int .i64 rk, .int .i64 ca, .int .i64 pe, .int .i64 tg, .int .i64 rq, .bool dn, .int .i64 fr, .int .i64 sq] 35)).cell? ⟨w.heap.size, 5, none⟩ = some (.int .i64 rq) := k1.cell 5
  have x6 : (w.alloc (.cells #[.string key, .int .i64 rk, .int .i64 ca, .int .i64 pe, .int .i64 tg, .int .i64 rq, .bool dn, .int .i64 fr, .int .i64 sq] 35)).cell? ⟨w.heap.size, 6, none⟩ = some (.bool dn) := k1.cell 6
  have x7 : (w.alloc (.cells #[.string key, .int .i64 rk, .int .i64 ca, .int .i64 pe, .int .i64 tg, .int .i64 rq, .bool dn, .int .i64 fr, .int .i64 sq] 35)).cell? ⟨w.heap.size, 7, none⟩ = some (.int .i64 fr) := k1.cell 7
  have x8 : (w.alloc (.cells #[.string key, .int .i64 rk, .int .i64 ca, .int .i64 pe, .int .i64 tg, .int .i64 rq, .bool dn, .int .i64 fr, .int .i64 sq] 35)).cell? ⟨w.heap.size, 8, none⟩ = some (.int .i64 sq) := k1.cell 8
  clear b1 k1 h hq
  go_enter Try.func26, Try.ntmps26
  go_wp2_with fail
  refine AC.out.mono ?_
  rintro e w2 ⟨A1, c1, rfl, ho, hb⟩
  have HO := hide (own_more ho B1.out.size)
  have HB := hide (B1.out.trans (hb.mono B1.out.size))
  clear ho hb AC x0 x1 x2 x3 x4 x5 x6 x7 x8
  go_wp2_with fail
  go_ret
  exact ⟨A1, c1, rfl, HO.out, HB.out⟩
/-- Which may be a receive's. -/
def mayD (rl : List Rc) (l : List Msg) (rk ca : Int) : List Msg := match atG rl rk ca with | none => [] | some r => if r.dn then [] else allF rl l r false
theorem mayD_in {rl : List Rc} {l : List Msg} {k : Nat} (hk : k < 64) (ca : Int) : mayL l (lsOf rl k) ca = mayD rl l k ca := by
  have h := atG_in rl k ca
  unfold mayD
  rw [← h]
  unfold mayL atL
  cases hf : (lsOf rl k).find? (fun x => decide (x.ca = ca)) with
  | none => rfl
  | some r =>
    have hr := lsOf_mem.1 (List.mem_of_find?_eq_some hf)
    have hc : r.ca = ca := by simpa using List.find?_some hf
    simp only
    unfold allF
    rw [hc, hr.2]
    have : rowL (lsOf rl) (k : Int) = lsOf rl k := by unfold rowL; rw [if_pos ⟨by omega, by omega⟩]; rfl
    rw [this]
    rfl
theorem mayD_out {rl : List Rc} {l : List Msg} (hok : okG rl) {rk : Int} (hr : rk < 0 ∨ 64 ≤ rk) (ca : Int) : mayD rl l rk ca = [] := by
  unfold mayD
  rw [atG_out hok hr]
theorem mayD_len (rl : List Rc) (l : List Msg) (rk ca : Int) : (mayD rl l rk ca).length ≤ 64 := by
  unfold mayD
  split
  · exact Nat.zero_le _
  · split
    · exact Nat.zero_le _
    · unfold allF freeL flt
      refine Nat.le_trans (List.length_filter_le _ _) (Nat.le_trans (fsts_len _ _ _ _ _) ?_)
      unfold sndL
      split
      · exact senders_len _ _
      · exact Nat.le_of_ble_eq_true rfl
set_option maxRecDepth 100000 in
set_option maxHeartbeats 16000000 in
theorem may_d {w : World} {p q : Nat} {A Aq : Option Addr} {rl : List Rc} {l : List Msg} (LS : LeftSaid) (h : DAt w p A rl) (hq : RAt w q Aq l) (hok : okG rl) (hu : Uniq l) (hmay : ∀ m ∈ l, mayM' m) (hl : rl.length ≤ 1000) (hlq : l.length ≤ 1000) (rk ca : Int) :
    Calls Try.prog 24 #[.pointer (some ⟨p, 0, none⟩), .pointer (some ⟨q, 0, none⟩), .int .i64 rk, .int .i64 ca] w fun e w' => ∃ A1 c1, e = .returned (.slice A1 (mayD rl l rk ca).length c1) ∧ w'.ownsRow w.heap.size 33 8 (.slice A1 (mayD rl l rk ca).length c1) (mayD rl l rk ca).length (msgCs (mayD rl l rk ca)) ∧ Below w.heap.size w w' := by
  have AC := hide (at_b h rk ca hl)
  have HD := hide h
  have HQ := hide hq
  have ALLC := hide (fun (w' : World) (hb : Below w.heap.size w w') key r1 c pe tg rq dn fr sq => all_d LS (HD.out.below hb) (HQ.out.below hb) hok hu hmay hl hlq key r1 c pe tg rq dn fr sq false)
  clear h hq
  obtain ⟨o, ho⟩ : ∃ z, atG rl rk ca = z := ⟨_, rfl⟩
  rw [ho] at AC
  go_enter Try.func24, Try.ntmps24
  go_wp2_with fail
  refine AC.out.mono ?_
  rintro e w1 ⟨rfl, hb1⟩
  have HB1 := hide hb1
  clear hb1 AC
  cases o with
  | none =>
    have FE : Hid (mayD rl l rk ca = []) := hide (by unfold mayD; rw [ho])
    have HB2 := hide (HB1.out.alloc HB1.out.size (.cells #[.string ⟨#[]⟩, .int .i64 0, .int .i64 0, .int .i64 0, .int .i64 0, .int .i64 0, .bool false, .int .i64 0, .int .i64 0] 35))
    clear ho
    have hv : atV none = .tuple #[.agg #[.string ⟨#[]⟩, .int .i64 0, .int .i64 0, .int .i64 0, .int .i64 0, .int .i64 0, .bool false, .int .i64 0, .int .i64 0], .bool false] := rfl
    rw [hv]
    clear hv
    go_wp2_with fail
    go_ret
    rw [FE.out]
    exact ⟨none, 0, rfl, ⟨rfl, .inl ⟨rfl, rfl⟩⟩, HB2.out⟩
  | some r =>
    obtain ⟨key, r1, c, pe, tg, rq, dn, fr, sq⟩ := r
    have hv : atV (some ⟨key, r1, c, pe, tg, rq, dn, fr, sq⟩) = .tuple #[.agg #[.string key, .int .i64 r1, .int .i64 c, .int .i64 pe, .int .i64 tg, .int .i64 rq, .bool dn, .int .i64 fr, .int .i64 sq], .bool true] := rfl
    rw [hv]
    clear hv
    have b2 := (Below.refl w1.heap.size w1).alloc (Nat.le_refl _) (.cells #[.string key, .int .i64 r1, .int .i64 c, .int .i64 pe, .int .i64 tg, .int .i64 rq, .bool dn, .int .i64 fr, .int .i64 sq] 35)
    have kx := Blk.new w1 35 #[.string key, .int .i64 r1, .int .i64 c, .int .i64 pe, .int .i64 tg, .int .i64 rq, .bool dn, .int .i64 fr, .int .i64 sq]
    obtain ⟨w2, hw2⟩ : ∃ z, w1.alloc (.cells #[.string key, .int .i64 r1, .int .i64 c, .int .i64 pe, .int .i64 tg, .int .i64 rq, .bool dn, .int .i64 fr, .int .i64 sq] 35) = z := ⟨_, rfl⟩
    obtain ⟨X, hX⟩ : ∃ z, w1.heap.size = z := ⟨_, rfl⟩
    rw [hw2] at b2 kx
    rw [hX] at kx
    have HB2 := hide (HB1.out.trans (b2.mono HB1.out.size))
    have HW2 := hide hw2
    have HX := hide hX
    have KX := hide kx
    clear b2 kx hw2 hX
    go_upto_region 2 with (fail)
    rw [HW2.out, HX.out]
    have x6 : w2.cell? ⟨X, 6, none⟩ = some (.bool dn) := KX.out.cell 6
    cases dn with
    | true =>
      have FE : Hid (mayD rl l rk ca = []) := hide (by unfold mayD; rw [ho]; rfl)
      clear ho
      go_wp2_with fail
      go_ret
      rw [FE.out]
      exact ⟨none, 0, rfl, ⟨rfl, .inl ⟨rfl, rfl⟩⟩, HB2.out⟩
    | false =>
      have FE : Hid (mayD rl l rk ca = allF rl l ⟨key, r1, c, pe, tg, rq, false, fr, sq⟩ false) := hide (by unfold mayD; rw [ho]; rfl)
      have LC := hide (ALLC.out w2 HB2.out key r1 c pe tg rq false fr sq)
      clear ho
      have z0 : w2.cell? ⟨X, 0, none⟩ = some (.string key) := KX.out.cell 0
      have z1 : w2.cell? ⟨X, 1, none⟩ = some (.int .i64 r1) := KX.out.cell 1
      have z2 : w2.cell? ⟨X, 2, none⟩ = some (.int .i64 c) := KX.out.cell 2
      have z3 : w2.cell? ⟨X, 3, none⟩ = some (.int .i64 pe) := KX.out.cell 3
      have z4 : w2.cell? ⟨X, 4, none⟩ = some (.int .i64 tg) := KX.out.cell 4
      have z5 : w2.cell? ⟨X, 5, none⟩ = some (.int .i64 rq) := KX.out.cell 5
      have z7 : w2.cell? ⟨X, 7, none⟩ = some (.int .i64 fr) := KX.out.cell 7
      have z8 : w2.cell? ⟨X, 8, none⟩ = some (.int .i64 sq) := KX.out.cell 8
      go_wp2_with fail
      refine LC.out.mono ?_
      rintro e w3 ⟨A1, c1, rfl, ho3, hb3⟩
      have HO := hide (own_more ho3 HB2.out.size)
      have HB3 := hide (HB2.out.trans (hb3.mono HB2.out.size))
      clear ho3 hb3 LC x6 z0 z1 z2 z3 z4 z5 z7 z8
      go_wp2_with fail
      go_ret
      rw [FE.out]
      exact ⟨A1, c1, rfl, HO.out, HB3.out⟩
end Po
end Go.Proofs.Ytonmojinijpneaa
end
section
/- Copies of rows of receives; the document's Copy, Match. -/
namespace Go.Proofs.Ytonmojinijpneaa
open Go Go.Joins Go.ChangeShapes Go.WideShapes Go.RowKit Go.Deep Go.Lib Go.Proofs.Ytonmojinijpneaa.Qu
set_option linter.unusedVariables false
set_option linter.unusedSimpArgs false
namespace Po
theorem rcCs_one : ∀ (r : List Rc), ∀ u ∈ rcCs r, u.oneCell' = true
  | [], u, h => absurd h List.not_mem_nil
  | m :: r, u, h => by
    rw [rcCs] at h
    rcases List.mem_append.1 h with h | h
    · unfold rcC at h
      simp only [List.mem_cons, List.not_mem_nil, or_false] at h
      rcases h with rfl | rfl | rfl | rfl | rfl | rfl | rfl | rfl | rfl <;> rfl
    · exact rcCs_one r u h
/-- What append([]Receive{}, row...) makes. -/
theorem rest_r (w : World) {B2 : Nat} (A9 : Option Addr) (c9 m : Nat) (K : List Rc) (ho : w.ownsRow B2 35 9 (.slice A9 m c9) m (rcCs K)) (hl : m ≤ 1000) :
    ∃ A1 c1 w1, (Builtin.append_ #[42, 42] 42 #[.slice (some ⟨w.heap.size, 0, none⟩) 0 0, .slice A9 m c9]).run Try.prog (w.alloc (.cells #[] 35)) = .ok (.slice A1 m c1) w1 ∧
      w1.ownsRow w.heap.size 35 9 (.slice A1 m c1) m (rcCs K) ∧ Below w.heap.size w w1 := by
  have ba := (Below.refl w.heap.size w).alloc (Nat.le_refl _) (.cells #[] 35)
  have own0 : (w.alloc (.cells #[] 35)).ownsRow w.heap.size 35 9 (.slice (some ⟨w.heap.size, 0, none⟩) 0 0) 0 [] := ⟨rfl, .inr ⟨w.heap.size, 0, #[], rfl, Nat.le_refl _, heap_alloc_new w _, Nat.le_refl _, by unfold maxLen; omega, rfl, rfl⟩⟩
  have hrd := reads_own (own_belowR ho ba)
  have hs1 : (w.alloc (.cells #[] 35)).heap.size = w.heap.size + 1 := by simp
  obtain ⟨Wz, hWz⟩ : ∃ x', w.alloc (.cells #[] 35) = x' := ⟨_, rfl⟩
  rw [hWz] at ba own0 hrd hs1 ⊢
  obtain ⟨i0, hi0, hz0', hz1, hz2⟩ := info_parts rc_info
  obtain ⟨v11, w11, hrun, hown, hk11, hob⟩ := run_append_any (P := Try.prog) Wz w.heap.size 42 42 35 i0 _ 9 80 Try.underlying42 hi0 hz0' hz1 hz2 (by rfl) (by omega) _ _ _ own0 Wz.heap.size A9 m c9 _ hrd (rcCs_one K) (by unfold maxLen; omega) (by omega) (by omega)
  obtain ⟨A11, c11, rfl⟩ := own_form hown
  rw [Nat.zero_add] at hrun hown
  exact ⟨A11, c11, w11, hrun, hown, ba.grown hk11 (by omega) (fun k e => by have := (own_block own0 e).1; omega)⟩
set_option maxRecDepth 100000 in
set_option maxHeartbeats 4000000 in
/-- The document's receives, copied. -/
theorem copy_d {w : World} {p : Nat} {A : Option Addr} {l : List Rc} (h : DAt w p A l) (hl : l.length ≤ 1000) :
    Calls Try.prog 44 #[.pointer (some ⟨p, 0, none⟩)] w fun e w' => ∃ p2 A2, e = .returned (.pointer (some ⟨p2, 0, none⟩)) ∧ DAt w' p2 A2 l ∧ (∀ b ∈ df p2 A2, w.heap.size ≤ b) ∧ Below w.heap.size w w' := by
  obtain ⟨capl, hbp, hownl⟩ := h
  obtain ⟨n, hn⟩ : ∃ z, l.length = z := ⟨_, rfl⟩
  rw [hn] at hbp hownl hl
  have ba := (Below.refl w.heap.size w).alloc (Nat.le_refl _) (.cells #[] 35)
  have hbp2 := hbp.below ba hbp.lt
  obtain ⟨A1, c1, w1, hrun, hown, hb1⟩ := rest_r w A capl n l hownl hl
  have c0 : (w.alloc (.cells #[] 35)).cell? ⟨p, 0, none⟩ = some (.slice A n capl) := hbp2.cell 0
  obtain ⟨wa, hwa⟩ : ∃ z, w.alloc (.cells #[] 35) = z := ⟨_, rfl⟩
  rw [hwa] at hrun
  have b2 := (Below.refl w1.heap.size w1).alloc (Nat.le_refl _) (.cells #[.slice A1 n c1] 49)
  have k2 := Blk.new w1 49 #[.slice A1 n c1]
  have hR : DAt (w1.alloc (.cells #[.slice A1 n c1] 49)) w1.heap.size A1 l := ⟨c1, by rw [hn]; exact k2, by rw [hn]; exact own_more (own_belowR hown b2) (Nat.zero_le _)⟩
  have hF : ∀ b ∈ df w1.heap.size A1, w.heap.size ≤ b := fun b hb => by
    unfold df at hb
    rcases List.mem_cons.1 hb with rfl | hb
    · exact hb1.size
    · cases A1 with
      | none => simp at hb
      | some a =>
        have e : b = a.block := by simpa using hb
        rw [e]
        exact (own_block hown rfl).1
  have HR := hide hR
  have HF := hide hF
  have HB := hide (hb1.trans (b2.mono hb1.size))
  have RUN := hide hrun
  have HWA := hide hwa
  clear hbp hownl hn ba hbp2 hown hb1 b2 k2 hR hF hrun hwa hl
  go_enter Try.func44, Try.ntmps44
  go_wp2_with (at_builtin; rw [HWA.out]; refine Lib.wpList_append_run _ rfl _ _ 42 42 rfl _ _ rfl rfl _ _ RUN.out ?_)
  go_ret
  exact ⟨_, A1, rfl, HR.out, HF.out, HB.out⟩
set_option maxRecDepth 100000 in
/-- A row of receives, copied by slices.Clone. -/
theorem clone_r {w : World} {B : Nat} (A : Option Addr) (cap n : Nat) (r : List Rc) (h : w.ownsRow B 35 9 (.slice A n cap) n (rcCs r)) (hl : n ≤ 1000) :
    Calls Try.prog 67 #[.slice A n cap] w fun e w' => ∃ A1 c1, e = .returned (.slice A1 n c1) ∧ w'.ownsRow w.heap.size 35 9 (.slice A1 n c1) n (rcCs r) ∧ Below w.heap.size w w' := by
  have hcase : (A = none ∧ n = 0 ∧ cap = 0) ∨ ∃ g, A = some ⟨g, 0, none⟩ := by
    rcases h.2 with ⟨h1, h2⟩ | ⟨g, _, _, hv, _⟩
    · injection h1 with e1 e2 e3
      exact .inl ⟨e1, h2, e3⟩
    · injection hv with e1
      exact .inr ⟨g, e1⟩
  rcases hcase with ⟨rfl, rfl, rfl⟩ | ⟨g, rfl⟩
  · have he : ∀ w, (binOp BinOp.eql 42 (Value.slice none 0 0) (Value.slice none 0 0)).run Try.prog w = .ok (.bool true) w := fun w => by
      simp [binOp, run_equal_slice_nil w _ _ _ _ _ Try.underlying42]
    have hr : rcCs r = [] := List.eq_nil_of_length_eq_zero (by simpa using h.1)
    have HR := hide hr
    clear h hr
    go_enter Try.func67, Try.ntmps67
    go_wp2_with fail
    go_ret
    exact ⟨none, 0, rfl, ⟨by rw [HR.out]; rfl, .inl ⟨rfl, rfl⟩⟩, Below.refl _ _⟩
  · have he : ∀ w, (binOp BinOp.eql 42 (Value.slice (some ⟨g, 0, none⟩) n cap) (Value.slice none 0 0)).run Try.prog w = .ok (.bool false) w := fun w => by
      simp [binOp, run_equal_slice_nil w _ _ _ _ _ Try.underlying42]
    obtain ⟨A1, c1, w1, hrun, hown, hb1⟩ := rest_r w (some ⟨g, 0, none⟩) cap n r h hl
    obtain ⟨Wz, hWz⟩ : ∃ x', w.alloc (.cells #[] 35) = x' := ⟨_, rfl⟩
    rw [hWz] at hrun
    have HOWN := hide hown
    have HB := hide hb1
    have RUN := hide hrun
    have HE := hide hWz
    clear hrun hown hb1 h hWz
    go_enter Try.func67, Try.ntmps67
    go_wp2_with (at_builtin; rw [HE.out]; refine Lib.wpList_append_run _ rfl _ _ 42 42 rfl _ _ rfl rfl _ _ RUN.out ?_)
    go_ret
    exact ⟨A1, c1, rfl, HOWN.out, HB.out⟩
/-- The document's receives and queue. -/
structure DS (w : World) (p q : Nat) (A Aq : Option Addr) (rl : List Rc) (l : List Msg) : Prop where
  hd : DAt w p A rl
  hq : RAt w q Aq l
  ap : ∀ b ∈ df p A, ¬ b ∈ rf q Aq
def footD (p q : Nat) (A Aq : Option Addr) : List Nat := df p A ++ rf q Aq
def GoesDS (w : World) (p q : Nat) (A Aq : Option Addr) (rl : List Rc) (l : List Msg) (w' : World) : Prop := ∃ A' Aq', DS w' p q A' Aq' rl l ∧ Ch (footD p q A Aq) w w' ∧ ∀ b ∈ footD p q A' Aq', b ∈ footD p q A Aq ∨ w.heap.size ≤ b
section
variable {w w' w2 : World} {p q : Nat} {A Aq : Option Addr} {rl rl' : List Rc} {l l' : List Msg}
theorem DS.lt (h : DS w p q A Aq rl l) : ∀ b ∈ footD p q A Aq, b < w.heap.size := fun b hb => by
  rcases List.mem_append.1 hb with hb | hb
  · exact h.hd.lt b hb
  · exact h.hq.lt b hb
theorem DS.below (h : DS w p q A Aq rl l) (hb : Below w.heap.size w w') : DS w' p q A Aq rl l := ⟨h.hd.below hb, h.hq.below hb, h.ap⟩
theorem DS.keep (h : DS w p q A Aq rl l) (hk : ∀ b ∈ footD p q A Aq, w'.heap[b]? = w.heap[b]?) : DS w' p q A Aq rl l := ⟨h.hd.keep fun b hb => hk b (List.mem_append_left _ hb), h.hq.keep fun b hb => hk b (List.mem_append_right _ hb), h.ap⟩
theorem GoesDS.same (h : DS w p q A Aq rl l) (hb : Below w.heap.size w w') : GoesDS w p q A Aq rl l w' := ⟨A, Aq, h.below hb, Ch.of_below hb, fun b hb => .inl hb⟩
theorem GoesDS.of_d (h : DS w p q A Aq rl l) (hg : GoesD w p A rl' w') : GoesDS w p q A Aq rl' l w' := by
  obtain ⟨A', h1, h2, h3⟩ := hg
  refine ⟨A', Aq, ⟨h1, h.hq.ch h2 h.ap, fun b hb => ?_⟩, h2.more fun j hj => .inl (List.mem_append_left _ hj), fun b hb => ?_⟩
  · rcases h3 b hb with e | e
    · exact h.ap b e
    · exact fun e2 => by have := h.hq.lt b e2; omega
  · rcases List.mem_append.1 hb with hb | hb
    · exact (h3 b hb).imp (fun e => List.mem_append_left _ e) id
    · exact .inl (List.mem_append_right _ hb)
theorem GoesDS.of_q (h : DS w p q A Aq rl l) (hg : GoesR w q Aq l' w') : GoesDS w p q A Aq rl l' w' := by
  obtain ⟨A', h1, h2, h3⟩ := hg
  refine ⟨A, A', ⟨h.hd.ch h2 fun b hb hm => h.ap b hm hb, h1, fun b hb hk => ?_⟩, h2.more fun j hj => .inl (List.mem_append_right _ hj), fun b hb => ?_⟩
  · rcases h3 b hk with e | e
    · exact h.ap b hb e
    · have := h.hd.lt b hb
      omega
  · rcases List.mem_append.1 hb with hb | hb
    · exact .inl (List.mem_append_left _ hb)
    · exact (h3 b hb).imp (fun e => List.mem_append_right _ e) id
theorem GoesDS.after (hb : Below w.heap.size w w') (hg : GoesDS w' p q A Aq rl l w2) : GoesDS w p q A Aq rl l w2 := by
  obtain ⟨L', K', h1, h3, h4⟩ := hg
  exact ⟨L', K', h1, (Ch.of_below hb).trans h3, fun b hm => (h4 b hm).imp id fun e => Nat.le_trans hb.size e⟩
end
/-- What the document's match answers, and makes. -/
def matchDE (rl : List Rc) (l : List Msg) (rk ca fr sq : Int) : Int := if hasB (mayD rl l rk ca) fr sq then 0 else 2
def matchDR (rl : List Rc) (l : List Msg) (rk ca fr sq : Int) : List Rc := if hasB (mayD rl l rk ca) fr sq then setG rl rk ca fr sq else rl
def matchDM (rl : List Rc) (l : List Msg) (rk ca fr sq : Int) : List Msg := if hasB (mayD rl l rk ca) fr sq then takeL l ⟨fr, sq⟩ else l
def partG (rl : List Rc) (rk ca fr sq : Int) (k : Nat) : List Rc := setG (rl.take k) rk ca fr sq ++ rl.drop k
theorem partG_len (rl : List Rc) (rk ca fr sq : Int) (k : Nat) : (partG rl rk ca fr sq k).length = rl.length := by
  unfold partG
  rw [List.length_append, setG_len, List.length_take, List.length_drop]
  omega
theorem partG_at {rl : List Rc} {rk ca fr sq : Int} {k : Nat} {m : Rc} (h : rl[k]? = some m) : (partG rl rk ca fr sq k)[k]? = some m := by
  obtain ⟨h1, e1⟩ := List.getElem?_eq_some_iff.1 h
  unfold partG
  have hl : (setG (rl.take k) rk ca fr sq).length = k := by rw [setG_len, List.length_take]; omega
  rw [List.getElem?_append_right (by omega), hl, Nat.sub_self, List.getElem?_drop, Nat.add_zero]
  exact h
theorem partG_step {rl : List Rc} {rk ca fr sq : Int} {k : Nat} {m : Rc} (h : rl[k]? = some m) :
    (¬ (m.rk = rk ∧ m.ca = ca) → partG rl rk ca fr sq (k + 1) = partG rl rk ca fr sq k) ∧ (m.rk = rk ∧ m.ca = ca → partG rl rk ca fr sq (k + 1) = (partG rl rk ca fr sq k).set k { m with dn := true, fr := fr, sq := sq }) := by
  obtain ⟨h1, e1⟩ := List.getElem?_eq_some_iff.1 h
  have hd : rl.drop k = m :: rl.drop (k + 1) := by rw [← e1]; exact List.drop_eq_getElem_cons h1
  have hl : (setG (rl.take k) rk ca fr sq).length = k := by rw [setG_len, List.length_take]; omega
  have ht : setG (rl.take (k + 1)) rk ca fr sq = setG (rl.take k) rk ca fr sq ++ [if m.rk = rk ∧ m.ca = ca then { m with dn := true, fr := fr, sq := sq } else m] := by
    unfold setG
    rw [List.take_succ_eq_append_getElem h1, List.map_append, e1]
    rfl
  unfold partG
  rw [ht, hd]
  refine ⟨fun hn => ?_, fun hy => ?_⟩
  · rw [if_neg hn, List.append_assoc]
    rfl
  · rw [if_pos hy, List.set_append_right (h := by omega), hl, Nat.sub_self, List.append_assoc]
    rfl
/-- One of the document's receives is matched. -/
theorem setD_dat {w w5 : World} {p g i j j2 : Nat} {A : Option Addr} {l : List Rc} {m : Rc} {fr sq : Int} (h : DAt w p A l) (hm : l[i]? = some m) (hA : A = some ⟨g, 0, none⟩)
    (he : ((((w.setCell ⟨g, i * 9 + 6, none⟩ (.bool true)).drewN j).setCell ⟨g, i * 9 + 7, none⟩ (.int .i64 fr)).setCell ⟨g, i * 9 + 8, none⟩ (.int .i64 sq)).drewN j2 = w5) :
    DAt w5 p A (l.set i { m with dn := true, fr := fr, sq := sq }) ∧ Ch (df p A) w w5 := by
  subst hA
  obtain ⟨cap, h1, h2⟩ := h
  have hpg : p ≠ g := fun e => by
    obtain ⟨_, cs, hc⟩ := own_inA h2 _ rfl
    have hc : Blk w g 35 cs := hc
    rw [← e] at hc
    have := hc.symm.trans h1
    injection this with e1
    injection e1 with _ e2
    exact absurd e2 (by decide)
  have hin : g ∈ df p (some (⟨g, 0, none⟩ : Addr)) := by unfold df; simp
  have hch : Ch (df p (some ⟨g, 0, none⟩)) w w5 := by
    rw [← he]
    exact ((((Ch.set_ w _ hin).trans (Ch.of_below (below_draws _ _ j))).trans (Ch.set_ _ _ hin)).trans (Ch.set_ _ _ hin)).trans (Ch.of_below (below_draws _ _ j2))
  refine ⟨⟨cap, ?_, ?_⟩, hch⟩
  · rw [List.length_set, ← he]
    show (_ : World).heap[p]? = _
    rw [show ((((((w.setCell ⟨g, i * 9 + 6, none⟩ (.bool true)).drewN j).setCell ⟨g, i * 9 + 7, none⟩ (.int .i64 fr)).setCell ⟨g, i * 9 + 8, none⟩ (.int .i64 sq)).drewN j2).heap[p]?) = w.heap[p]? from by
      show ((((w.setCell ⟨g, i * 9 + 6, none⟩ (.bool true)).drewN j).setCell ⟨g, i * 9 + 7, none⟩ (.int .i64 fr)).setCell ⟨g, i * 9 + 8, none⟩ (.int .i64 sq)).heap[p]? = _
      rw [Below.heap_setCell _ _ _ _ hpg, Below.heap_setCell _ _ _ _ hpg]
      show (w.setCell ⟨g, i * 9 + 6, none⟩ (.bool true)).heap[p]? = _
      rw [Below.heap_setCell _ _ _ _ hpg]]
    exact h1
  · rw [List.length_set, rcCs_set _ _ _ _ _ hm, ← he]
    have o1 := own_set (k := i * 9 + 6) h2 (.bool true)
    have o2 := own_belowR o1 (below_draws _ _ j)
    have o3 := own_set (k := i * 9 + 8) (own_set (k := i * 9 + 7) o2 (.int .i64 fr)) (.int .i64 sq)
    exact own_belowR o3 (below_draws _ _ j2)
set_option maxRecDepth 100000 in
set_option maxHeartbeats 16000000 in
theorem match_d {w : World} {p q : Nat} {A Aq : Option Addr} {rl : List Rc} {l : List Msg} (LS : LeftSaid) (S : DS w p q A Aq rl l) (hok : okG rl) (hu : Uniq l) (hmay : ∀ m ∈ l, mayM' m) (hl : rl.length ≤ 1000) (hlq : l.length ≤ 1000) (rk ca fr sq : Int) :
    Calls Try.prog 41 #[.pointer (some ⟨p, 0, none⟩), .pointer (some ⟨q, 0, none⟩), .int .i64 rk, .int .i64 ca, .int .i64 fr, .int .i64 sq] w fun e w' => e = .returned (.int .i64 (matchDE rl l rk ca fr sq)) ∧ GoesDS w p q A Aq (matchDR rl l rk ca fr sq) (matchDM rl l rk ca fr sq) w' := by
  have MY := hide (may_d LS S.hd S.hq hok hu hmay hl hlq rk ca)
  have HS := hide S
  have HL := hide hl
  have HLQ := hide hlq
  clear S hl hlq
  go_enter Try.func41, Try.ntmps41
  go_wp2_with fail
  refine MY.out.mono ?_
  rintro e w1 ⟨A1, c1, rfl, ho, hb1⟩
  have hml64 := mayD_len rl l rk ca
  obtain ⟨ml, hml⟩ : ∃ z, mayD rl l rk ca = z := ⟨_, rfl⟩
  rw [hml] at ho hml64
  rw [hml]
  obtain ⟨n, hn⟩ : ∃ z, ml.length = z := ⟨_, rfl⟩
  rw [hn] at ho hml64
  rw [hn]
  have MR := hide (MRow.of_own ho hn)
  have S1 := hide (HS.out.below hb1)
  have B1 := hide hb1
  have HML := hide hml
  have HN := hide hn
  have H64 := hide hml64
  clear ho hb1 hml hn hml64 MY
  go_wp2_with fail
  go_loopw [14, 15] (fun v14 _ wr => ∃ i : Nat, i ≤ n ∧ v14 = .int .i64 i ∧ w1 = wr ∧ Hid (hasB (ml.take i) fr sq = false)) (fun v14 _ _ => n - (RowKit.intOf v14).toNat)
  case atStart => exact ⟨0, Nat.zero_le _, rfl, rfl, hide rfl⟩
  case round =>
    obtain ⟨i, hi, rfl, hwr, HNO⟩ := hrel
    rename World => wr
    subst hwr
    have hn64 := H64.out
    by_cases hlt : i < n
    rotate_left
    · have hltI : ¬ (i : Int) < (n : Int) := by omega
      have FE : Hid (matchDE rl l rk ca fr sq = 2 ∧ matchDR rl l rk ca fr sq = rl ∧ matchDM rl l rk ca fr sq = l) := hide (by
        have h := HNO.out
        rw [List.take_of_length_le (by rw [HN.out]; omega)] at h
        unfold matchDE matchDR matchDM
        rw [HML.out, h]
        exact ⟨rfl, rfl, rfl⟩)
      go_wp2_with fail
      go_ret
      rw [FE.out.1, FE.out.2.1, FE.out.2.2]
      exact ⟨rfl, GoesDS.same HS.out B1.out⟩
    have hltI : (i : Int) < (n : Int) := by omega
    obtain ⟨m, hm⟩ : ∃ m, ml[i]? = some m := ⟨_, List.getElem?_eq_getElem (by rw [HN.out]; exact hlt)⟩
    obtain ⟨g, rfl, hg, hit⟩ := MR.out.it i _ hm
    obtain ⟨xf, hxf⟩ : ∃ z, m.fr = z := ⟨_, rfl⟩
    obtain ⟨xc, hxc⟩ : ∃ z, m.ca = z := ⟨_, rfl⟩
    have n1 : w1.cell? ⟨g, i * 8 + 1, none⟩ = some (.int .i64 xf) := by rw [← hxf]; exact hit 1 _ rfl
    have n3 : w1.cell? ⟨g, i * 8 + 3, none⟩ = some (.int .i64 xc) := by rw [← hxc]; exact hit 3 _ rfl
    have hstp : hasB (ml.take (i + 1)) fr sq = decide (xf = fr ∧ xc = sq) := by
      obtain ⟨h1, e1⟩ := List.getElem?_eq_some_iff.1 hm
      have h := HNO.out
      unfold hasB at h ⊢
      rw [List.take_succ_eq_append_getElem h1, List.any_append, h, e1, Bool.false_or, ← hxf, ← hxc]
      simp
    have HST := hide hstp
    have HMI := hide (show m ∈ ml from List.mem_of_getElem? hm)
    have HXF := hide hxf
    have HXC := hide hxc
    have HLT := hide hlt
    clear hstp hm hg hit hlt hxf hxc
    by_cases h1 : xf = fr
    rotate_left
    · have t1 : (xf == fr) = false := by simpa using h1
      have HNO1 : Hid (hasB (ml.take (i + 1)) fr sq = false) := hide (by rw [HST.out]; exact decide_eq_false (fun h => h1 h.1))
      clear h1 HST
      go_wp2_with fail
      go_roundw
      case rel => exact ⟨i + 1, HLT.out, by go_num, by first | rfl | trivial, HNO1⟩
      case measure => have := HLT.out; simp [RowKit.intOf] <;> omega
    subst h1
    by_cases h2 : xc = sq
    rotate_left
    · have t2 : (xc == sq) = false := by simpa using h2
      have HNO1 : Hid (hasB (ml.take (i + 1)) xf sq = false) := hide (by rw [HST.out]; exact decide_eq_false (fun h => h2 h.2))
      clear HST
      go_wp2_with fail
      go_roundw
      case rel => exact ⟨i + 1, HLT.out, by go_num, by first | rfl | trivial, HNO1⟩
      case measure => have := HLT.out; simp [RowKit.intOf] <;> omega
    subst h2
    have FE : Hid (matchDE rl l rk ca xf xc = 0 ∧ matchDR rl l rk ca xf xc = setG rl rk ca xf xc ∧ matchDM rl l rk ca xf xc = takeL l ⟨xf, xc⟩) := hide (by
      have h : hasB (mayD rl l rk ca) xf xc = true := by
        rw [HML.out, ← HXF.out, ← HXC.out]
        exact hasB_of HMI.out
      unfold matchDE matchDR matchDM
      rw [h]
      exact ⟨rfl, rfl, rfl⟩)
    have TC := hide (Take_b S1.out.hq ⟨xf, xc⟩ HLQ.out)
    clear HST HNO HXF HXC
    go_wp2_with fail
    refine TC.out.mono ?_
    rintro e w2 ⟨rfl, hgq⟩
    obtain ⟨A', Aq', hS2, hch2, hft2⟩ := GoesDS.of_q S1.out hgq
    obtain rfl : A' = A := by
      have h1 := hS2.hd
      obtain ⟨A'', h2, h3, h4⟩ := hgq
      have h5 := S1.out.hd.ch h3 fun b hb hm => S1.out.ap b hm hb
      obtain ⟨_, k1, _⟩ := h1
      obtain ⟨_, k2, _⟩ := h5
      have := k1.symm.trans k2
      injection this with e1
      injection e1 with e1
      have e2 := congrArg (fun a : Array Value => a[0]?) e1
      simp at e2
      exact e2.1
    have S2 := hide hS2
    have CH2 := hide hch2
    have FT2 := hide hft2
    clear hgq hS2 hch2 hft2 TC n1 n3
    obtain ⟨n2, hn2⟩ : ∃ z, rl.length = z := ⟨_, rfl⟩
    have HN2 := hide hn2
    have HNL2 := hide (show n2 ≤ 1000 by rw [← hn2]; exact HL.out)
    clear hn2
    go_wp2_with fail
    go_loopw [15] (fun v15 wt => ∃ k : Nat, k ≤ n2 ∧ v15 = .int .i64 k ∧ Hid (DAt wt p A' (partG rl rk ca xf xc k)) ∧ Hid (Ch (df p A') w2 wt)) (fun v15 _ => n2 - (RowKit.intOf v15).toNat)
    case atStart => exact ⟨0, Nat.zero_le _, rfl, hide (by have h := S2.out.hd; exact h), hide (Ch.refl _ _)⟩
    case round =>
      obtain ⟨k, hk, rfl, HD, HCH⟩ := hrel
      rename World => wt
      have hnl := HNL2.out
      obtain ⟨cap, c0, hrr, hcap⟩ := HD.out.cell0
      rw [partG_len, HN2.out] at c0 hcap
      by_cases hlt : k < n2
      rotate_left
      · have hltI : ¬ (k : Int) < (n2 : Int) := by omega
        have HGO : Hid (GoesDS w p q A' Aq (setG rl rk ca xf xc) (takeL l ⟨xf, xc⟩) wt) := hide (by
          have h := HD.out
          have e : partG rl rk ca xf xc k = setG rl rk ca xf xc := by
            unfold partG
            rw [List.take_of_length_le (by rw [HN2.out]; omega), List.drop_of_length_le (by rw [HN2.out]; omega), List.append_nil]
          rw [e] at h
          refine GoesDS.after B1.out ⟨A', Aq', ⟨h, S2.out.hq.ch HCH.out S2.out.ap, S2.out.ap⟩, CH2.out.trans (HCH.out.more fun j hj => .inl (List.mem_append_left _ hj)), FT2.out⟩)
        clear hrr hlt
        go_wp2_with fail
        go_ret
        rw [FE.out.1, FE.out.2.1, FE.out.2.2]
        exact ⟨rfl, HGO.out⟩
      have hltI : (k : Int) < (n2 : Int) := by omega
      obtain ⟨⟨mk, mr, mc, mp, mt, mq, md, mf, ms⟩, hm⟩ : ∃ m, rl[k]? = some m := ⟨_, List.getElem?_eq_getElem (by rw [HN2.out]; exact hlt)⟩
      have hmp := partG_at (rk := rk) (ca := ca) (fr := xf) (sq := xc) hm
      obtain ⟨g2, hA, hg2, hit⟩ := hrr.it k _ hmp
      have o1 : wt.cell? ⟨g2, k * 9 + 1, none⟩ = some (.int .i64 mr) := hit 1 _ rfl
      have o2 : wt.cell? ⟨g2, k * 9 + 2, none⟩ = some (.int .i64 mc) := hit 2 _ rfl
      have o6 : wt.cell? ⟨g2, k * 9 + 6, none⟩ = some (.bool md) := hit 6 _ rfl
      have o7 : wt.cell? ⟨g2, k * 9 + 7, none⟩ = some (.int .i64 mf) := hit 7 _ rfl
      have o8 : wt.cell? ⟨g2, k * 9 + 8, none⟩ = some (.int .i64 ms) := hit 8 _ rfl
      have HST := hide (partG_step (rk := rk) (ca := ca) (fr := xf) (sq := xc) hm)
      have HMP := hide hmp
      have HLTK := hide hlt
      have HHA := hide hA
      rw [hA] at c0
      clear hm hmp hit hg2 hlt hrr hA
      by_cases h1 : mr = rk
      rotate_left
      · have t1 : (mr == rk) = false := by simpa using h1
        have HE := hide (HST.out.1 (fun h => h1 h.1))
        clear h1 HST
        go_wp2_with fail
        go_roundw
        case rel => exact ⟨k + 1, HLTK.out, by go_num, by rw [HE.out]; exact HD, HCH⟩
        case measure => have := HLTK.out; simp [RowKit.intOf] <;> omega
      by_cases h2 : mc = ca
      rotate_left
      · have t1 : (mr == rk) = true := by simpa using h1
        have t2 : (mc == ca) = false := by simpa using h2
        have HE := hide (HST.out.1 (fun h => h2 h.2))
        clear h1 h2 HST
        go_wp2_with fail
        go_roundw
        case rel => exact ⟨k + 1, HLTK.out, by go_num, by rw [HE.out]; exact HD, HCH⟩
        case measure => have := HLTK.out; simp [RowKit.intOf] <;> omega
      have t1 : (mr == rk) = true := by simpa using h1
      have t2 : (mc == ca) = true := by simpa using h2
      have HE := hide (HST.out.2 ⟨h1, h2⟩)
      obtain ⟨capd, hbd, hod⟩ := HD.out
      rw [HHA.out] at hod
      obtain ⟨g3, hg3, _, _, ⟨bcs, hblk⟩, hfz, _⟩ := own_cell hod (by rw [partG_len, HN2.out]; have := HLTK.out; omega)
      cases hg3
      have hpg : p ≠ g2 := fun e => by
        rw [← e] at hblk
        have := hblk.symm.trans hbd
        injection this with e1
        injection e1 with _ e2
        exact absurd e2 (by decide)
      have z6 := hfz (k * 9 + 6)
      have hb3 : Blk (wt.setCell ⟨g2, k * 9 + 6, none⟩ (.bool true)) g2 35 (bcs.setIfInBounds (k * 9 + 6) (.bool true)) := hblk.set_ _ _
      have hbd3 := hbd.far (p := ⟨g2, k * 9 + 6, none⟩) hpg (.bool true)
      rw [HHA.out, partG_len, HN2.out] at hbd3
      have p7 := ((hb3.cell (k * 9 + 7)).trans ((Array.getElem?_setIfInBounds_ne (by omega)).trans (hblk.cell (k * 9 + 7)).symm)).trans o7
      have p8 := ((hb3.cell (k * 9 + 8)).trans ((Array.getElem?_setIfInBounds_ne (by omega)).trans (hblk.cell (k * 9 + 8)).symm)).trans o8
      obtain ⟨w3, hw3⟩ : ∃ z, wt.setCell ⟨g2, k * 9 + 6, none⟩ (.bool true) = z := ⟨_, rfl⟩
      rw [hw3] at hb3 hbd3 p7 p8
      have c3 : w3.cell? ⟨p, 0, none⟩ = some (.slice (some ⟨g2, 0, none⟩) n2 capd) := hbd3.cell 0
      have c37 : (w3.setCell ⟨g2, k * 9 + 7, none⟩ (.int .i64 xf)).cell? ⟨p, 0, none⟩ = some (.slice (some ⟨g2, 0, none⟩) n2 capd) := (hbd3.far (p := ⟨g2, k * 9 + 7, none⟩) hpg (.int .i64 xf)).cell 0
      have c38 : (w3.setCell ⟨g2, k * 9 + 8, none⟩ (.int .i64 xc)).cell? ⟨p, 0, none⟩ = some (.slice (some ⟨g2, 0, none⟩) n2 capd) := (hbd3.far (p := ⟨g2, k * 9 + 8, none⟩) hpg (.int .i64 xc)).cell 0
      have z7 := hb3.frozen (k * 9 + 7)
      have z8 := hb3.frozen (k * 9 + 8)
      have HW3 := hide hw3
      clear h1 h2 HST hbd hod hblk hfz hb3 hbd3 hw3
      go_upto_region 12 with (fail)
      rw [HW3.out]
      clear c0 o1 o2 o6 o7 o8 z6 t1 t2
      go_region
      obtain ⟨w4, hw4⟩ : ∃ z, ((w3.setCell ⟨g2, k * 9 + 7, none⟩ (.int .i64 xf)).setCell ⟨g2, k * 9 + 8, none⟩ (.int .i64 xc)).drew = z := ⟨_, rfl⟩
      rw [hw4]
      obtain ⟨hD4, hC4⟩ := setD_dat (w5 := w4) (j := 0) (j2 := 1) HD.out HMP.out HHA.out (by rw [HW3.out]; exact hw4)
      rw [← HE.out] at hD4
      have HD4 := hide hD4
      have HC4 := hide (HCH.out.trans hC4)
      clear hD4 hC4 hw4 p7 p8 c3 c37 c38 z7 z8
      go_wp2_with fail
      go_roundw
      case rel => exact ⟨k + 1, HLTK.out, by go_num, HD4, HC4⟩
      case measure => have := HLTK.out; simp [RowKit.intOf] <;> omega
end Po
end Go.Proofs.Ytonmojinijpneaa
end
section
/- The program's receives, copied. -/
namespace Go.Proofs.Ytonmojinijpneaa
open Go Go.Joins Go.ChangeShapes Go.WideShapes Go.RowKit Go.Deep Go.Lib Go.Proofs.Ytonmojinijpneaa.Qu
set_option linter.unusedVariables false
set_option linter.unusedSimpArgs false
namespace Po
def upTo (ls : Nat → List Rc) (k : Nat) : Nat → List Rc := fun j => if j < k then ls j else []
theorem upTo_step (ls : Nat → List Rc) (k : Nat) : upTo ls (k + 1) = updF (upTo ls k) k (ls k) := by
  funext j
  unfold upTo
  by_cases e : j = k
  · subst e
    rw [updF_at, if_pos (by omega)]
  · rw [updF_ne _ _ _ e]
    by_cases h : j < k
    · rw [if_pos h, if_pos (by omega)]
    · rw [if_neg h, if_neg (by omega)]
theorem PSt.congr {w : World} {p : Nat} {L : Nat → Option Addr × Nat} {ls ls' : Nat → List Rc} (h : PSt w p L ls) (e : ∀ k, k < 64 → ls k = ls' k) : PSt w p L ls' := by
  have hs : ∀ k, k < 64 → slR L ls k = slR L ls' k := fun k hk => by unfold slR; rw [e k hk]
  refine ⟨?_, fun k hk => ?_, fun i j hi hj hij g hg => ?_, fun i hi => ?_, fun k hk => ?_, fun k hk r hr => ?_⟩
  · have : pCs L ls' = pCs L ls := by
      unfold pCs
      congr 1
      refine Array.ext_getElem? fun i => ?_
      simp only [Array.getElem?_map]
      by_cases hi : i < 64
      · simp [hi, hs i hi]
      · simp [hi]
    rw [this]
    exact h.blk
  · rw [← hs k hk, ← e k hk]; exact h.row k hk
  · rw [← hs i hi] at hg; rw [← hs j hj]; exact h.ap i j hi hj hij g hg
  · rw [← hs i hi]; exact h.pp i hi
  · rw [← e k hk]; exact h.up k hk
  · rw [← e k hk] at hr; exact h.ok k hk r hr
/-- A row more of a copy. -/
theorem copy_row {w w2 : World} {p2 k n : Nat} {L' : Nat → Option Addr × Nat} {ls ls' : Nat → List Rc} {A1 : Option Addr} {c1 : Nat} (h : PSt w p2 L' ls') (hk : k < 64) (hn : (ls k).length = n) (hb : Below w.heap.size w w2)
    (ho : w2.ownsRow w.heap.size 35 9 (.slice A1 n c1) n (rcCs (ls k))) (hup : (ls k).Pairwise fun a b => a.ca < b.ca) (hok : ∀ r ∈ ls k, mayR r ∧ r.rk = k) :
    PSt (w2.setCell ⟨p2, 1 + k, none⟩ (.slice A1 n c1)) p2 (updF L' k (A1, c1)) (updF ls' k (ls k)) := by
  have h2 := h.below hb
  have hslk : slR (updF L' k (A1, c1)) (updF ls' k (ls k)) k = .slice A1 n c1 := by unfold slR; rw [updF_at, updF_at, hn]
  have hslj : ∀ j, j ≠ k → slR (updF L' k (A1, c1)) (updF ls' k (ls k)) j = slR L' ls' j := fun j hj => by unfold slR; rw [updF_ne L' k _ hj, updF_ne ls' k _ hj]
  have hge : ∀ g, (Value.slice A1 n c1).ownBlock = some g → w.heap.size ≤ g := fun g hg => (own_block ho hg).1
  have hpk : (Value.slice A1 n c1).ownBlock ≠ some p2 := fun e => by have := hge p2 e; have := h.blk.lt; omega
  have hjk : ∀ j, j < 64 → j ≠ k → ∀ g, (slR L' ls' j).ownBlock = some g → (Value.slice A1 n c1).ownBlock ≠ some g := fun j hj _ g hg e => by have := hge g e; have := (own_block (h.row j hj) hg).2.1; omega
  refine ⟨?_, fun j hj => ?_, fun i j hi hj hij g hg => ?_, fun i hi => ?_, fun j hj => ?_, fun j hj x hx => ?_⟩
  · have := h2.blk.set_ (1 + k) (.slice A1 n c1)
    rwa [pCs_upd L' ls' k hk A1 c1 n _ hn] at this
  · by_cases e : j = k
    · subst e
      rw [hslk, updF_at, hn]
      exact ownsRow_setCell_other (own_more ho (Nat.zero_le _)) hpk _
    · rw [hslj j e, updF_ne ls' k _ e]
      exact ownsRow_setCell_other (h2.row j hj) (h2.pp j hj) _
  · by_cases hik : i = k
    · subst hik
      rw [hslk] at hg
      rw [hslj j (fun e => hij e.symm)]
      exact fun e => hjk j hj (fun e => hij e.symm) g e hg
    · rw [hslj i hik] at hg
      by_cases e : j = k
      · subst e
        rw [hslk]
        exact hjk i hi hik g hg
      · rw [hslj j e]
        exact h.ap i j hi hj hij g hg
  · by_cases hik : i = k
    · subst hik
      rw [hslk]
      exact hpk
    · rw [hslj i hik]
      exact h.pp i hi
  · by_cases e : j = k
    · subst e
      rw [updF_at]
      exact hup
    · rw [updF_ne ls' k _ e]
      exact h.up j hj
  · by_cases e : j = k
    · subst e
      rw [updF_at] at hx
      exact hok x hx
    · rw [updF_ne ls' k _ e] at hx
      exact h.ok j hj x hx
theorem arr_size : (Try.prog.info? 58).map (·.size) = some 64 := by kernel_rfl
def arrV (L : Nat → Option Addr × Nat) (ls : Nat → List Rc) : Array Value := (Array.range 64).map (slR L ls)
theorem arrV_at (L : Nat → Option Addr × Nat) (ls : Nat → List Rc) {k : Nat} (hk : k < 64) : (arrV L ls)[k]? = some (slR L ls k) := by
  unfold arrV
  simp [hk]
theorem arrV_size (L : Nat → Option Addr × Nat) (ls : Nat → List Rc) : (arrV L ls).size = 64 := by simp [arrV]
theorem index_arr (L : Nat → Option Addr × Nat) (ls : Nat → List Rc) {k : Nat} (hk : k < 64) (w : World) : (Instr.index 58 (.agg (arrV L ls)) (.int .i64 (k : Int))).run Try.prog w = .ok (slR L ls k) w := by
  have u1 := Try.underlying58
  have z1 := Try.sizeOf42
  have a1 := Try.isAgg42
  have u2 := Try.underlying42
  have h0 : (0 : Int) ≤ (k : Int) := by omega
  have h1 : (k : Int) < 64 := by omega
  have hv := arrV_at L ls hk
  generalize arrV L ls = cs at hv
  generalize slR L ls k = v at hv
  have hz : (sizeOf 42).run Try.prog w = .ok 1 w := z1 w
  have ha : (isAgg 42).run Try.prog w = .ok false w := a1 w
  simp [Instr.index, asIntOf, run_underlying u1, part, h0, h1, hv, hz, ha, Sem.run_bind, Sem.run_pure, Result.andThen_ok]
  intro h
  omega
set_option maxRecDepth 100000 in
set_option maxHeartbeats 16000000 in
theorem copyP_c {w : World} {p : Nat} {L : Nat → Option Addr × Nat} {ls : Nat → List Rc} (h : PSt w p L ls) (hlen : ∀ k, k < 64 → (ls k).length ≤ 1000) :
    Calls Try.prog 32 #[.pointer (some ⟨p, 0, none⟩)] w fun e w' => ∃ p2 L2, e = .returned (.pointer (some ⟨p2, 0, none⟩)) ∧ PSt w' p2 L2 ls ∧ (∀ b ∈ pfoot p2 L2, w.heap.size ≤ b) ∧ Below w.heap.size w w' := by
  have HP := hide h
  have HLEN := hide hlen
  have MD := hide (made_yes w p L ls h)
  have NP := hide (Po.New_c w)
  clear h hlen
  go_enter Try.func32, Try.ntmps32
  go_wp2_with fail
  refine MD.out.mono ?_
  rintro e w0 ⟨rfl, hw0⟩
  obtain rfl : w = w0 := hw0
  clear MD
  go_wp2_with fail
  refine NP.out.mono ?_
  rintro e w1 ⟨p2, L0, rfl, hp2, hpf2, hb1⟩
  have H0 := hide hp2
  have F0 := hide hpf2
  have B1 := hide hb1
  have HP1 := HP.out.below hb1
  have hc : ∀ j v, (arrV L ls).toList[j]? = some v → w1.cell? ((⟨p, 1, none⟩ : Addr).add j) = some v := fun j v hv => by
    have hj : j < 64 := by
      have := (List.getElem?_eq_some_iff.1 hv).1
      simpa [arrV] using this
    have e : (⟨p, 1, none⟩ : Addr).add j = ⟨p, 1 + j, none⟩ := by unfold Addr.add; split <;> simp_all
    rw [e, HP1.at_ j hj]
    have h2 := arrV_at L ls hj
    rw [Array.getElem?_toList] at hv
    rw [h2] at hv
    injection hv with hv
    rw [← hv]
    rfl
  have HC := hide hc
  have hsz := arrV_size L ls
  have HIX := hide (fun (k : Nat) (hk : k < 64) (w : World) => index_arr L ls hk w)
  obtain ⟨cs, hcs⟩ : ∃ z, arrV L ls = z := ⟨_, rfl⟩
  rw [hcs] at HC HIX hsz
  have ASZ : Hid ((Try.prog.info? 58).map (·.size) = some cs.size) := hide (by rw [hsz]; exact arr_size)
  clear hp2 hpf2 hb1 HP1 hc hcs NP hsz
  go_wp2_with (refine wpList_load_cells rfl 58 _ rfl ⟨p, 1, none⟩ rfl cs _ HC.out Try.underlying58 rfl ASZ.out ?_)
  go_loopw [4, 5, 14] (fun _ _ v14 wr => ∃ (k : Nat) (L2 : Nat → Option Addr × Nat), k ≤ 64 ∧ v14 = .int .i64 k ∧ Hid (PSt wr p2 L2 (upTo ls k)) ∧ Hid (∀ b ∈ pfoot p2 L2, w.heap.size ≤ b) ∧ Hid (Below w.heap.size w wr)) (fun _ _ v14 _ => 64 - (RowKit.intOf v14).toNat)
  case atStart => exact ⟨0, L0, Nat.zero_le _, rfl, hide (by have e : upTo ls 0 = ls0 := by funext j; unfold upTo ls0; simp
                                                             rw [e]; exact H0.out), F0, B1⟩
  case round =>
    obtain ⟨k, L2, hk, rfl, HPC, HF, HB⟩ := hrel
    rename World => wr
    by_cases hlk : k < 64
    rotate_left
    · obtain rfl : k = 64 := by omega
      have HE := hide (HPC.out.congr (ls' := ls) (fun j hj => by unfold upTo; rw [if_pos hj]))
      clear hlk
      go_wp2_with fail
      go_ret
      exact ⟨p2, L2, rfl, HE.out, HF.out, HB.out⟩
    have hlkI : (k : Int) < 64 := by omega
    have hlkN : ¬ (k : Int) < 0 := by omega
    have hk0 : (0 : Int) ≤ (k : Int) := by omega
    have HLK := hide hlk
    have HPr := hide (HP.out.below HB.out)
    obtain ⟨n, hn⟩ : ∃ z, (ls k).length = z := ⟨_, rfl⟩
    have HNK := hide hn
    have HNL := hide (show n ≤ 1000 by rw [← hn]; exact HLEN.out k hlk)
    have IX : ∀ w, (Instr.index 58 (.agg cs) (.int .i64 (k : Int))).run Try.prog w = .ok (.slice (L k).1 n (L k).2) w := fun w => by
      have h := HIX.out k hlk w
      unfold slR at h
      rwa [hn] at h
    clear hn
    go_upto_region 7 with (fail)
    clear IX
    let R : Nat → Value → World → Prop := fun sl u w1 => match sl with
      | 18 => u = .pointer (some ⟨p2, 0, none⟩)
      | 19 => u = .int .i64 (k : Int)
      | 20 => u = .slice (L k).1 n (L k).2
      | 21 => ∃ A1 c1, u = .slice A1 n c1 ∧ w1.ownsRow wr.heap.size 35 9 (.slice A1 n c1) n (rcCs (ls k))
      | 22 => u = .pointer (some ⟨p2, 0, none⟩)
      | 23 => u = .pointer (some ⟨p2, 1, none⟩)
      | 24 => u = .pointer (some ⟨p2, 1 + k, none⟩)
      | _ => True
    refine wp_region_relT 7 R (by kernel_rfl) (by kernel_rfl) (by kernel_rfl) (by kernel_rfl) ?mono ?step ?fin
    case mono =>
      intro sl u wx wy h hb
      match sl with
      | 21 =>
        obtain ⟨A1, c1, h1, h2⟩ := h
        exact ⟨A1, c1, h1, own_belowR h2 hb⟩
      | 0 | 1 | 2 | 3 | 4 | 5 | 6 | 7 | 8 | 9 | 10 | 11 | 12 | 13 | 14 | 15 | 16 | 17 | 18 | 19 | 20 | 22 | 23 | 24 | _ + 25 => exact h
    case step =>
      intro op hop
      simp only [List.take, List.mem_cons, List.not_mem_nil, or_false] at hop
      rcases hop with rfl | rfl | rfl | rfl | rfl | rfl | rfl
      · intro a w1 hb hs hr
        have e3 : a.tmps.getD 3 undef = .pointer (some ⟨p2, 0, none⟩) := hs 3 (by decide)
        rw [Array.getD_eq_getD_getElem?] at e3
        unfold Oper.wp
        simp only [execOp, Act.eval, Array.getD_eq_getD_getElem?, e3]
        go_simp
        first | exact ⟨_, rfl, rfl, Below.refl _ _⟩ | exact ⟨_, rfl, trivial, Below.refl _ _⟩ | exact ⟨_, rfl, Below.refl _ _⟩
      · intro a w1 hb hs hr
        have e4 : a.tmps.getD 4 undef = .int .i64 (k : Int) := hs 4 (by decide)
        rw [Array.getD_eq_getD_getElem?] at e4
        unfold Oper.wp
        simp only [execOp, Act.eval, Array.getD_eq_getD_getElem?, e4]
        go_simp
        first | exact ⟨_, rfl, rfl, Below.refl _ _⟩ | exact ⟨_, rfl, trivial, Below.refl _ _⟩ | exact ⟨_, rfl, Below.refl _ _⟩
      · intro a w1 hb hs hr
        have e5 : a.tmps.getD 5 undef = .slice (L k).1 n (L k).2 := hs 5 (by decide)
        rw [Array.getD_eq_getD_getElem?] at e5
        unfold Oper.wp
        simp only [execOp, Act.eval, Array.getD_eq_getD_getElem?, e5]
        go_simp
        first | exact ⟨_, rfl, rfl, Below.refl _ _⟩ | exact ⟨_, rfl, trivial, Below.refl _ _⟩ | exact ⟨_, rfl, Below.refl _ _⟩
      · intro a w1 hb hs hr
        have e20 : a.tmps.getD 20 undef = .slice (L k).1 n (L k).2 := hr 20 (by decide) (by apply Array.mem_toList_iff.1; repeat (first | exact List.Mem.head _ | apply List.Mem.tail))
        rw [Array.getD_eq_getD_getElem?] at e20
        unfold Oper.wp
        simp only [execOp, Act.eval, Array.getD_eq_getD_getElem?, e20]
        go_simp
        refine (clone_r (w := w1) (L k).1 (L k).2 n (ls k) (by have h := (HPr.out.below hb).row k hlk; unfold slR at h; rwa [HNK.out] at h) HNL.out).mono ?_
        rintro e w' ⟨A1, c1, rfl, ho, hb2⟩
        exact ⟨_, rfl, ⟨A1, c1, rfl, own_more ho hb.size⟩, hb2⟩
      · intro a w1 hb hs hr
        have e18 : a.tmps.getD 18 undef = .pointer (some ⟨p2, 0, none⟩) := hr 18 (by decide) (by apply Array.mem_toList_iff.1; repeat (first | exact List.Mem.head _ | apply List.Mem.tail))
        rw [Array.getD_eq_getD_getElem?] at e18
        unfold Oper.wp
        simp only [execOp, Act.eval, Array.getD_eq_getD_getElem?, e18]
        go_simp
        first | exact ⟨_, rfl, rfl, Below.refl _ _⟩ | exact ⟨_, rfl, trivial, Below.refl _ _⟩ | exact ⟨_, rfl, Below.refl _ _⟩
      · intro a w1 hb hs hr
        have e22 : a.tmps.getD 22 undef = .pointer (some ⟨p2, 0, none⟩) := hr 22 (by decide) (by apply Array.mem_toList_iff.1; repeat (first | exact List.Mem.head _ | apply List.Mem.tail))
        rw [Array.getD_eq_getD_getElem?] at e22
        unfold Oper.wp
        simp only [execOp, Act.eval, Array.getD_eq_getD_getElem?, e22]
        go_simp
        first | exact ⟨_, rfl, rfl, Below.refl _ _⟩ | exact ⟨_, rfl, trivial, Below.refl _ _⟩ | exact ⟨_, rfl, Below.refl _ _⟩
      · intro a w1 hb hs hr
        have e23 : a.tmps.getD 23 undef = .pointer (some ⟨p2, 1, none⟩) := hr 23 (by decide) (by apply Array.mem_toList_iff.1; repeat (first | exact List.Mem.head _ | apply List.Mem.tail))
        have e19 : a.tmps.getD 19 undef = .int .i64 (k : Int) := hr 19 (by decide) (by apply Array.mem_toList_iff.1; repeat (first | exact List.Mem.head _ | apply List.Mem.tail))
        rw [Array.getD_eq_getD_getElem?] at e23
        rw [Array.getD_eq_getD_getElem?] at e19
        unfold Oper.wp
        simp only [execOp, Act.eval, Array.getD_eq_getD_getElem?, e23, e19]
        go_simp
        first | exact ⟨_, rfl, rfl, Below.refl _ _⟩ | exact ⟨_, rfl, trivial, Below.refl _ _⟩ | exact ⟨_, rfl, Below.refl _ _⟩
    case fin =>
        intro ff w9 hb hr
        obtain ⟨A1, c1, e21, ho⟩ : ∃ A1 c1, ff 21 = .slice A1 n c1 ∧ w9.ownsRow wr.heap.size 35 9 (.slice A1 n c1) n (rcCs (ls k)) := hr 21 (by decide)
        have e24 : ff 24 = .pointer (some ⟨p2, 1 + k, none⟩) := hr 24 (by decide)
        have hP9 := HPC.out.below hb
        have f9 := hP9.blk.frozen (1 + k)
        have c9 : w9.cell? ⟨p2, 1 + k, none⟩ = some (.slice (L2 k).1 (upTo ls k k).length (L2 k).2) := hP9.at_ k hlk
        obtain ⟨va, hva⟩ : ∃ z, Value.slice (L2 k).1 (upTo ls k k).length (L2 k).2 = z := ⟨_, rfl⟩
        rw [hva] at c9
        have hnew := copy_row HPC.out hlk HNK.out hb ho (HP.out.up k hlk) (HP.out.ok k hlk)
        rw [← upTo_step] at hnew
        have HN9 := hide hnew
        have HF9 := hide (show ∀ b ∈ pfoot p2 (updF L2 k (A1, c1)), w.heap.size ≤ b from fun b hm => by
          rcases (mem_pfoot (upTo ls (k + 1))).1 hm with rfl | ⟨j, hj, e⟩
          · exact HF.out b ((mem_pfoot ls).2 (.inl rfl))
          · by_cases ejk : j = k
            · subst ejk
              obtain ⟨a, h1, h2⟩ := own_sl.1 e
              rw [updF_at] at h1
              have h1 : A1 = some a := h1
              have := (own_block ho (g := b) (by rw [h1, ← h2]; rfl)).1
              have := HB.out.size
              omega
            · obtain ⟨a, h1, h2⟩ := own_sl.1 e
              rw [updF_ne L2 k _ ejk] at h1
              exact HF.out b ((mem_pfoot ls).2 (.inr ⟨j, hj, own_sl.2 ⟨a, h1, h2⟩⟩)))
        have HB9 := hide ((HB.out.trans (hb.mono HB.out.size)).setCell (p := ⟨p2, 1 + k, none⟩) (show w.heap.size ≤ p2 from HF.out p2 ((mem_pfoot ls).2 (.inl rfl))) (.slice A1 n c1))
        obtain ⟨wz, hwz⟩ : ∃ z, w9.setCell ⟨p2, 1 + k, none⟩ (.slice A1 n c1) = z := ⟨_, rfl⟩
        rw [hwz] at HN9 HB9
        have HWZ := hide hwz
        clear hr hb ho hP9 hnew hva hwz
        simp only [putAll, slotsOf, List.take, List.drop, List.filterMap_cons, List.filterMap_nil, List.foldl_cons, List.foldl_nil, Act.put, e21, e24]
        simp only [List.setIfInBounds_toArray, List.set_cons_succ, List.set_cons_zero]
        go_upto_region 8 with (fail)
        rw [HWZ.out]
        clear c9 f9
        go_wp2_with fail
        go_roundw
        case rel => exact ⟨k + 1, updF L2 k (A1, c1), HLK.out, by go_num, HN9, HF9, HB9⟩
        case measure => have := HLK.out; simp [RowKit.intOf] <;> omega
end Po
end Go.Proofs.Ytonmojinijpneaa
end
