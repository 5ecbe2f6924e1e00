/- The document's queue: Ahead. -/
import Derived.Test.YtomladbdebfikaaRows
import Derived.Test.YtomladbdebfikaaQuO
import Derived.Test.YtomladbdebfikaaRelG
import Derived.Deep.CutRange
namespace Go.Proofs.Ytomladbdebfikaa
open Go Go.RowKit Go.Lib
set_option linter.unusedVariables false
set_option linter.unusedSimpArgs false
namespace Qu
def picked (l : List Msg) (c : Chan) : List Msg := l.filter fun m => isM m c
theorem picked_app (a b : List Msg) (c : Chan) : picked (a ++ b) c = picked a c ++ picked b c := by simp [picked]
theorem picked_len (a : List Msg) (c : Chan) : (picked a c).length ≤ a.length := List.length_filter_le _ _
set_option maxRecDepth 100000 in
set_option maxHeartbeats 16000000 in
theorem Ahead_b {w : World} {p : Nat} {l : List Msg} (h : RSt w p l) (m : Msg) (hl : l.length ≤ 1000) :
    Calls Try.prog 25 #[.pointer (some ⟨p, 0, none⟩), .agg #[.string m.key, .int .i64 m.fr, .int .i64 m.to, .int .i64 m.ca, .int .i64 m.tg, .int .i64 m.va, .int .i64 m.sz, .bool m.tk]] w fun e w' => ∃ A1 c1, e = .returned (.slice A1 (aheadL l m.who).length c1) ∧ w'.ownsRow w.heap.size 31 8 (.slice A1 (aheadL l m.who).length c1) (aheadL l m.who).length (msgCs (aheadL l m.who)) ∧ Below w.heap.size w w' := by
  have b1 := (Below.refl w.heap.size w).alloc (Nat.le_refl _) (.cells #[.string m.key, .int .i64 m.fr, .int .i64 m.to, .int .i64 m.ca, .int .i64 m.tg, .int .i64 m.va, .int .i64 m.sz, .bool m.tk] 31)
  have kx := Blk.new w 31 #[.string m.key, .int .i64 m.fr, .int .i64 m.to, .int .i64 m.ca, .int .i64 m.tg, .int .i64 m.va, .int .i64 m.sz, .bool m.tk]
  have q1 := h.below b1
  go_enter Try.func25, Try.ntmps25
  go_upto_region 1 with (fail)
  obtain ⟨w1, hw1⟩ : ∃ z, w.alloc (.cells #[.string m.key, .int .i64 m.fr, .int .i64 m.to, .int .i64 m.ca, .int .i64 m.tg, .int .i64 m.va, .int .i64 m.sz, .bool m.tk] 31) = z := ⟨_, rfl⟩
  rw [hw1] at b1 kx q1 ⊢
  obtain ⟨X, hX⟩ : ∃ X, w.heap.size = X := ⟨_, rfl⟩
  rw [hX] at kx ⊢
  have HQ1 := hide q1
  have HQ0 := hide h
  have HB1 := hide (And.intro b1 b1.size)
  have HX := hide hX
  have m1 : w1.cell? ⟨X, 1, none⟩ = some (.int .i64 m.fr) := kx.cell 1
  have m3 : w1.cell? ⟨X, 3, none⟩ = some (.int .i64 m.ca) := kx.cell 3
  have PC := hide (place_b q1 m.who hl)
  clear b1 kx q1 hw1 hX h
  go_wp2_with fail
  refine PC.out.mono ?_
  rintro e w1b ⟨rfl, hw1b⟩
  obtain rfl : w1 = w1b := hw1b
  clear PC
  cases hp : plc l m.who with
  | none =>
    have FA : Hid (aheadL l m.who = []) := hide (by unfold aheadL; rw [hp])
    have e1 : plcI l m.who = -1 := by unfold plcI; rw [hp]
    rw [e1]
    clear e1 hp
    go_wp2_with fail
    go_loopw [5, 7] (fun v5 v7 wr => v5 = .slice none 0 0 ∧ v7 = .int .i64 0 ∧ w1 = wr) (fun _ _ _ => 0)
    case atStart => exact ⟨rfl, rfl, rfl⟩
    case round =>
      obtain ⟨rfl, rfl, hwr⟩ := hrel
      rename World => wr
      subst hwr
      go_wp2_with fail
      go_ret
      exact ⟨none, 0, by rw [FA.out]; rfl, by rw [FA.out]; exact ⟨rfl, .inl ⟨rfl, rfl⟩⟩, HB1.out.1⟩
  | some i =>
    obtain ⟨⟨yk, yf, yt, yc, yg, yv, yz, yb⟩, hm, hw⟩ := plc_some hp
    have e1 : plcI l m.who = (i : Int) := by unfold plcI; rw [hp]
    rw [e1]
    have FA : Hid (aheadL l m.who = picked (l.take i) ⟨yk, yf, yt⟩) := hide (by
      have hg : l.getD i m0 = ⟨yk, yf, yt, yc, yg, yv, yz, yb⟩ := by rw [List.getD_eq_getElem?_getD, hm]; rfl
      unfold aheadL
      rw [hp]
      simp only
      rw [hg]
      rfl)
    obtain ⟨n, hn⟩ : ∃ n, l.length = n := ⟨_, rfl⟩
    have hin := plc_lt hp
    have HN := hide hn
    have HIN := hide (show i < n by omega)
    have HNL := hide (show n ≤ 1000 by omega)
    have HI := hide hm
    have OW0 := hide (show w1.ownsRow w.heap.size 31 8 (.slice none 0 0) 0 (msgCs (picked (l.take 0) ⟨yk, yf, yt⟩)) from ⟨rfl, .inl ⟨rfl, rfl⟩⟩)
    clear e1 hp hw hm hn hin m1 m3
    go_wp2_with fail
    go_loopw [5, 7] (fun v5 v7 wr => ∃ (jj : Nat) (A1 : Option Addr) (c1 : Nat), jj ≤ i ∧ v7 = .int .i64 jj ∧ v5 = .slice A1 (picked (l.take jj) ⟨yk, yf, yt⟩).length c1 ∧ Hid (wr.ownsRow w.heap.size 31 8 (.slice A1 (picked (l.take jj) ⟨yk, yf, yt⟩).length c1) (picked (l.take jj) ⟨yk, yf, yt⟩).length (msgCs (picked (l.take jj) ⟨yk, yf, yt⟩))) ∧ Hid (RSt wr p l) ∧ Hid (Below w.heap.size w wr ∧ w.heap.size ≤ wr.heap.size)) (fun _ v7 _ => i - (RowKit.intOf v7).toNat)
    case atStart => exact ⟨0, none, 0, Nat.zero_le _, rfl, rfl, OW0, HQ1, HB1⟩
    case round =>
      obtain ⟨jj, A1, c1, hj, rfl, rfl, HOW, HQR, HBR⟩ := hrel
      rename World => wr
      have hn1 := HNL.out
      by_cases hlt : jj < i
      rotate_left
      · have hltI : ¬ (jj : Int) < (i : Int) := by omega
        obtain rfl : i = jj := by omega
        go_wp2_with fail
        go_ret
        exact ⟨A1, c1, by rw [FA.out]; rfl, by rw [FA.out]; exact HOW.out, HBR.out.1⟩
      have hltI : (jj : Int) < (i : Int) := by omega
      obtain ⟨A, cap, hb, hown⟩ := HQR.out
      have MR := hide (MRow.of_own hown rfl)
      have c0 : wr.cell? ⟨p, 0, none⟩ = some (.slice A l.length cap) := hb.cell 0
      rw [HN.out] at c0
      have hpb := hb.lt
      clear hb hown
      have hin := HIN.out
      obtain ⟨⟨mk, mf, mt, mc, mg, mv, mz, mb⟩, hm⟩ : ∃ m, l[jj]? = some m := ⟨_, List.getElem?_eq_getElem (by rw [HN.out]; omega)⟩
      obtain ⟨g, rfl, hg, hit⟩ := MR.out.it jj _ hm
      obtain ⟨g2, hgg, _, hit2⟩ := MR.out.it i _ HI.out
      cases hgg
      have n0 : wr.cell? ⟨g, jj * 8, none⟩ = some (.string mk) := hit 0 _ rfl
      have n1 : wr.cell? ⟨g, jj * 8 + 1, none⟩ = some (.int .i64 mf) := hit 1 _ rfl
      have n2 : wr.cell? ⟨g, jj * 8 + 2, none⟩ = some (.int .i64 mt) := hit 2 _ rfl
      have n3 : wr.cell? ⟨g, jj * 8 + 3, none⟩ = some (.int .i64 mc) := hit 3 _ rfl
      have n4 : wr.cell? ⟨g, jj * 8 + 4, none⟩ = some (.int .i64 mg) := hit 4 _ rfl
      have n5 : wr.cell? ⟨g, jj * 8 + 5, none⟩ = some (.int .i64 mv) := hit 5 _ rfl
      have n6 : wr.cell? ⟨g, jj * 8 + 6, none⟩ = some (.int .i64 mz) := hit 6 _ rfl
      have n7 : wr.cell? ⟨g, jj * 8 + 7, none⟩ = some (.bool mb) := hit 7 _ rfl
      have o0 : wr.cell? ⟨g, i * 8, none⟩ = some (.string yk) := hit2 0 _ rfl
      have o1 : wr.cell? ⟨g, i * 8 + 1, none⟩ = some (.int .i64 yf) := hit2 1 _ rfl
      have o2 : wr.cell? ⟨g, i * 8 + 2, none⟩ = some (.int .i64 yt) := hit2 2 _ rfl
      have CEL : Hid (∀ wx, Below wr.heap.size wr wx → ∀ b v, (b = p ∨ b = g) → ∀ k, wr.cell? ⟨b, k, none⟩ = some v → wx.cell? ⟨b, k, none⟩ = some v) := hide (fun wx hb b v hbb k hc => (hb.cell (p := ⟨b, k, none⟩) (by rcases hbb with rfl | rfl <;> assumption)).trans hc)
      have c0r := c0
      have HM := hide hm
      have HLT := hide hlt
      have ltj : (jj : Int) < (n : Int) := by omega
      have lti : (i : Int) < (n : Int) := by omega
      clear hit hit2 hm hlt hg hpb c0 MR
      go_upto_region 6 with (fail)
      let R : Nat → Value → World → Prop := fun sl u w1 => match sl with
        | 19 => u = .pointer (some ⟨p, 0, none⟩)
        | 20 => u = .pointer (some ⟨p, 0, none⟩)
        | 21 => u = .pointer (some ⟨p, 0, none⟩)
        | 22 => u = .slice (some ⟨g, 0, none⟩) n cap
        | 23 => u = .int .i64 jj
        | 24 => u = .pointer (some ⟨g, jj * 8, none⟩)
        | 25 => u = .agg #[.string mk, .int .i64 mf, .int .i64 mt, .int .i64 mc, .int .i64 mg, .int .i64 mv, .int .i64 mz, .bool mb]
        | 26 => u = .pointer (some ⟨p, 0, none⟩)
        | 27 => u = .pointer (some ⟨p, 0, none⟩)
        | 28 => u = .pointer (some ⟨p, 0, none⟩)
        | 29 => u = .slice (some ⟨g, 0, none⟩) n cap
        | 30 => u = .int .i64 i
        | 31 => u = .pointer (some ⟨g, i * 8, none⟩)
        | 32 => u = .pointer (some ⟨g, i * 8, none⟩)
        | 33 => u = .string yk
        | 34 => u = .pointer (some ⟨p, 0, none⟩)
        | 35 => u = .pointer (some ⟨p, 0, none⟩)
        | 36 => u = .pointer (some ⟨p, 0, none⟩)
        | 37 => u = .slice (some ⟨g, 0, none⟩) n cap
        | 38 => u = .int .i64 i
        | 39 => u = .pointer (some ⟨g, i * 8, none⟩)
        | 40 => u = .pointer (some ⟨g, i * 8 + 1, none⟩)
        | 41 => u = .int .i64 yf
        | 42 => u = .pointer (some ⟨p, 0, none⟩)
        | 43 => u = .pointer (some ⟨p, 0, none⟩)
        | 44 => u = .pointer (some ⟨p, 0, none⟩)
        | 45 => u = .slice (some ⟨g, 0, none⟩) n cap
        | 46 => u = .int .i64 i
        | 47 => u = .pointer (some ⟨g, i * 8, none⟩)
        | 48 => u = .pointer (some ⟨g, i * 8 + 2, none⟩)
        | 49 => u = .int .i64 yt
        | 50 => u = .bool (isM ⟨mk, mf, mt, mc, mg, mv, mz, mb⟩ ⟨yk, yf, yt⟩)
        | _ => True
      refine wp_region_relGW [] R (fun a b => Below a.heap.size a b) (fun _ w => Below wr.heap.size wr w) (by kernel_rfl) (by kernel_rfl) (by kernel_rfl) (by kernel_rfl) ?mono (fun w => Below.refl _ _) ((Below.refl _ _).drew) ?gs ?step ?fin
      case mono =>
        intro sl u wx wy h hk
        match sl with
        | 0 | 1 | 2 | 3 | 4 | 5 | 6 | 7 | 8 | 9 | 10 | 11 | 12 | 13 | 14 | 15 | 16 | 17 | 18 | 19 | 20 | 21 | 22 | 23 | 24 | 25 | 26 | 27 | 28 | 29 | 30 | 31 | 32 | 33 | 34 | 35 | 36 | 37 | 38 | 39 | 40 | 41 | 42 | 43 | 44 | 45 | 46 | 47 | 48 | 49 | 50 | _ + 51 => exact h
      case gs =>
        intro p hp u w1 h
        cases hp
      case step =>
        intro j o ho
        match j, ho with
        | 0, ho =>
          cases ho
          intro V aa wx hV hdep hval hj hsm hr
          have e0 : aa.tmps.getD 0 undef = .pointer (some ⟨p, 0, none⟩) := hsm 0 (by decide)
          rw [Array.getD_eq_getD_getElem?] at e0
          unfold Oper.wp
          simp only [execOp, Act.eval, Array.getD_eq_getD_getElem?, e0]
          go_simp
          first | exact ⟨_, rfl, rfl, Below.refl _ _⟩ | exact ⟨_, rfl, rfl, Below.refl _ _, hj⟩ | exact ⟨_, rfl, Below.refl _ _, hj⟩ | exact ⟨_, rfl, hj⟩
        | 1, ho =>
          cases ho
          intro V aa wx hV hdep hval hj hsm hr
          have e19 : aa.tmps.getD 19 undef = .pointer (some ⟨p, 0, none⟩) := hr 19 (by decide) (by apply Array.mem_toList_iff.1; repeat (first | exact List.Mem.head _ | apply List.Mem.tail))
          rw [Array.getD_eq_getD_getElem?] at e19
          unfold Oper.wp
          simp only [execOp, Act.eval, Array.getD_eq_getD_getElem?, e19]
          go_simp
          first | exact ⟨_, rfl, rfl, Below.refl _ _⟩ | exact ⟨_, rfl, rfl, Below.refl _ _, hj⟩ | exact ⟨_, rfl, Below.refl _ _, hj⟩ | exact ⟨_, rfl, hj⟩
        | 2, ho =>
          cases ho
          intro V aa wx hV hdep hval hj hsm hr
          have e20 : aa.tmps.getD 20 undef = .pointer (some ⟨p, 0, none⟩) := hr 20 (by decide) (by apply Array.mem_toList_iff.1; repeat (first | exact List.Mem.head _ | apply List.Mem.tail))
          rw [Array.getD_eq_getD_getElem?] at e20
          unfold Oper.wp
          simp only [execOp, Act.eval, Array.getD_eq_getD_getElem?, e20]
          go_simp
          first | exact ⟨_, rfl, rfl, Below.refl _ _⟩ | exact ⟨_, rfl, rfl, Below.refl _ _, hj⟩ | exact ⟨_, rfl, Below.refl _ _, hj⟩ | exact ⟨_, rfl, hj⟩
        | 3, ho =>
          cases ho
          intro V aa wx hV hdep hval hj hsm hr
          have e21 : aa.tmps.getD 21 undef = .pointer (some ⟨p, 0, none⟩) := hr 21 (by decide) (by apply Array.mem_toList_iff.1; repeat (first | exact List.Mem.head _ | apply List.Mem.tail))
          have c0 : wx.cell? ⟨p, 0, none⟩ = some (.slice (some ⟨g, 0, none⟩) n cap) := CEL.out wx hj _ _ (.inl rfl) _ c0r
          rw [Array.getD_eq_getD_getElem?] at e21
          unfold Oper.wp
          simp only [execOp, Act.eval, Array.getD_eq_getD_getElem?, e21]
          go_simp
          first | exact ⟨_, rfl, rfl, Below.refl _ _⟩ | exact ⟨_, rfl, rfl, Below.refl _ _, hj⟩ | exact ⟨_, rfl, Below.refl _ _, hj⟩ | exact ⟨_, rfl, hj⟩
        | 4, ho =>
          cases ho
          intro V aa wx hV hdep hval hj hsm hr
          have e7 : aa.tmps.getD 7 undef = .int .i64 jj := hsm 7 (by decide)
          rw [Array.getD_eq_getD_getElem?] at e7
          unfold Oper.wp
          simp only [execOp, Act.eval, Array.getD_eq_getD_getElem?, e7]
          go_simp
          first | exact ⟨_, rfl, rfl, Below.refl _ _⟩ | exact ⟨_, rfl, rfl, Below.refl _ _, hj⟩ | exact ⟨_, rfl, Below.refl _ _, hj⟩ | exact ⟨_, rfl, hj⟩
        | 5, ho =>
          cases ho
          intro V aa wx hV hdep hval hj hsm hr
          have e22 : aa.tmps.getD 22 undef = .slice (some ⟨g, 0, none⟩) n cap := hr 22 (by decide) (by apply Array.mem_toList_iff.1; repeat (first | exact List.Mem.head _ | apply List.Mem.tail))
          have e23 : aa.tmps.getD 23 undef = .int .i64 jj := hr 23 (by decide) (by apply Array.mem_toList_iff.1; repeat (first | exact List.Mem.head _ | apply List.Mem.tail))
          have al0 : (jj : Int) < (n : Int) := ltj
          rw [Array.getD_eq_getD_getElem?] at e22
          rw [Array.getD_eq_getD_getElem?] at e23
          unfold Oper.wp
          simp only [execOp, Act.eval, Array.getD_eq_getD_getElem?, e22, e23]
          go_simp
          first | exact ⟨_, rfl, rfl, Below.refl _ _⟩ | exact ⟨_, rfl, rfl, Below.refl _ _, hj⟩ | exact ⟨_, rfl, Below.refl _ _, hj⟩ | exact ⟨_, rfl, hj⟩
        | 6, ho =>
          cases ho
          intro V aa wx hV hdep hval hj hsm hr
          have e24 : aa.tmps.getD 24 undef = .pointer (some ⟨g, jj * 8, none⟩) := hr 24 (by decide) (by apply Array.mem_toList_iff.1; repeat (first | exact List.Mem.head _ | apply List.Mem.tail))
          have x0 : wx.cell? ⟨g, jj * 8, none⟩ = some (.string mk) := CEL.out wx hj _ _ (.inr rfl) _ n0
          have x1 : wx.cell? ⟨g, jj * 8 + 1, none⟩ = some (.int .i64 mf) := CEL.out wx hj _ _ (.inr rfl) _ n1
          have x2 : wx.cell? ⟨g, jj * 8 + 2, none⟩ = some (.int .i64 mt) := CEL.out wx hj _ _ (.inr rfl) _ n2
          have x3 : wx.cell? ⟨g, jj * 8 + 3, none⟩ = some (.int .i64 mc) := CEL.out wx hj _ _ (.inr rfl) _ n3
          have x4 : wx.cell? ⟨g, jj * 8 + 4, none⟩ = some (.int .i64 mg) := CEL.out wx hj _ _ (.inr rfl) _ n4
          have x5 : wx.cell? ⟨g, jj * 8 + 5, none⟩ = some (.int .i64 mv) := CEL.out wx hj _ _ (.inr rfl) _ n5
          have x6 : wx.cell? ⟨g, jj * 8 + 6, none⟩ = some (.int .i64 mz) := CEL.out wx hj _ _ (.inr rfl) _ n6
          have x7 : wx.cell? ⟨g, jj * 8 + 7, none⟩ = some (.bool mb) := CEL.out wx hj _ _ (.inr rfl) _ n7
          rw [Array.getD_eq_getD_getElem?] at e24
          unfold Oper.wp
          simp only [execOp, Act.eval, Array.getD_eq_getD_getElem?, e24]
          go_simp
          first | exact ⟨_, rfl, rfl, Below.refl _ _⟩ | exact ⟨_, rfl, rfl, Below.refl _ _, hj⟩ | exact ⟨_, rfl, Below.refl _ _, hj⟩ | exact ⟨_, rfl, hj⟩
        | 7, ho =>
          cases ho
          intro V aa wx hV hdep hval hj hsm hr
          have e0 : aa.tmps.getD 0 undef = .pointer (some ⟨p, 0, none⟩) := hsm 0 (by decide)
          rw [Array.getD_eq_getD_getElem?] at e0
          unfold Oper.wp
          simp only [execOp, Act.eval, Array.getD_eq_getD_getElem?, e0]
          go_simp
          first | exact ⟨_, rfl, rfl, Below.refl _ _⟩ | exact ⟨_, rfl, rfl, Below.refl _ _, hj⟩ | exact ⟨_, rfl, Below.refl _ _, hj⟩ | exact ⟨_, rfl, hj⟩
        | 8, ho =>
          cases ho
          intro V aa wx hV hdep hval hj hsm hr
          have e26 : aa.tmps.getD 26 undef = .pointer (some ⟨p, 0, none⟩) := hr 26 (by decide) (by apply Array.mem_toList_iff.1; repeat (first | exact List.Mem.head _ | apply List.Mem.tail))
          rw [Array.getD_eq_getD_getElem?] at e26
          unfold Oper.wp
          simp only [execOp, Act.eval, Array.getD_eq_getD_getElem?, e26]
          go_simp
          first | exact ⟨_, rfl, rfl, Below.refl _ _⟩ | exact ⟨_, rfl, rfl, Below.refl _ _, hj⟩ | exact ⟨_, rfl, Below.refl _ _, hj⟩ | exact ⟨_, rfl, hj⟩
        | 9, ho =>
          cases ho
          intro V aa wx hV hdep hval hj hsm hr
          have e27 : aa.tmps.getD 27 undef = .pointer (some ⟨p, 0, none⟩) := hr 27 (by decide) (by apply Array.mem_toList_iff.1; repeat (first | exact List.Mem.head _ | apply List.Mem.tail))
          rw [Array.getD_eq_getD_getElem?] at e27
          unfold Oper.wp
          simp only [execOp, Act.eval, Array.getD_eq_getD_getElem?, e27]
          go_simp
          first | exact ⟨_, rfl, rfl, Below.refl _ _⟩ | exact ⟨_, rfl, rfl, Below.refl _ _, hj⟩ | exact ⟨_, rfl, Below.refl _ _, hj⟩ | exact ⟨_, rfl, hj⟩
        | 10, ho =>
          cases ho
          intro V aa wx hV hdep hval hj hsm hr
          have e28 : aa.tmps.getD 28 undef = .pointer (some ⟨p, 0, none⟩) := hr 28 (by decide) (by apply Array.mem_toList_iff.1; repeat (first | exact List.Mem.head _ | apply List.Mem.tail))
          have c0 : wx.cell? ⟨p, 0, none⟩ = some (.slice (some ⟨g, 0, none⟩) n cap) := CEL.out wx hj _ _ (.inl rfl) _ c0r
          rw [Array.getD_eq_getD_getElem?] at e28
          unfold Oper.wp
          simp only [execOp, Act.eval, Array.getD_eq_getD_getElem?, e28]
          go_simp
          first | exact ⟨_, rfl, rfl, Below.refl _ _⟩ | exact ⟨_, rfl, rfl, Below.refl _ _, hj⟩ | exact ⟨_, rfl, Below.refl _ _, hj⟩ | exact ⟨_, rfl, hj⟩
        | 11, ho =>
          cases ho
          intro V aa wx hV hdep hval hj hsm hr
          have e6 : aa.tmps.getD 6 undef = .int .i64 i := hsm 6 (by decide)
          rw [Array.getD_eq_getD_getElem?] at e6
          unfold Oper.wp
          simp only [execOp, Act.eval, Array.getD_eq_getD_getElem?, e6]
          go_simp
          first | exact ⟨_, rfl, rfl, Below.refl _ _⟩ | exact ⟨_, rfl, rfl, Below.refl _ _, hj⟩ | exact ⟨_, rfl, Below.refl _ _, hj⟩ | exact ⟨_, rfl, hj⟩
        | 12, ho =>
          cases ho
          intro V aa wx hV hdep hval hj hsm hr
          have e29 : aa.tmps.getD 29 undef = .slice (some ⟨g, 0, none⟩) n cap := hr 29 (by decide) (by apply Array.mem_toList_iff.1; repeat (first | exact List.Mem.head _ | apply List.Mem.tail))
          have e30 : aa.tmps.getD 30 undef = .int .i64 i := hr 30 (by decide) (by apply Array.mem_toList_iff.1; repeat (first | exact List.Mem.head _ | apply List.Mem.tail))
          have al0 : (i : Int) < (n : Int) := lti
          rw [Array.getD_eq_getD_getElem?] at e29
          rw [Array.getD_eq_getD_getElem?] at e30
          unfold Oper.wp
          simp only [execOp, Act.eval, Array.getD_eq_getD_getElem?, e29, e30]
          go_simp
          first | exact ⟨_, rfl, rfl, Below.refl _ _⟩ | exact ⟨_, rfl, rfl, Below.refl _ _, hj⟩ | exact ⟨_, rfl, Below.refl _ _, hj⟩ | exact ⟨_, rfl, hj⟩
        | 13, ho =>
          cases ho
          intro V aa wx hV hdep hval hj hsm hr
          have e31 : aa.tmps.getD 31 undef = .pointer (some ⟨g, i * 8, none⟩) := hr 31 (by decide) (by apply Array.mem_toList_iff.1; repeat (first | exact List.Mem.head _ | apply List.Mem.tail))
          rw [Array.getD_eq_getD_getElem?] at e31
          unfold Oper.wp
          simp only [execOp, Act.eval, Array.getD_eq_getD_getElem?, e31]
          go_simp
          first | exact ⟨_, rfl, rfl, Below.refl _ _⟩ | exact ⟨_, rfl, rfl, Below.refl _ _, hj⟩ | exact ⟨_, rfl, Below.refl _ _, hj⟩ | exact ⟨_, rfl, hj⟩
        | 14, ho =>
          cases ho
          intro V aa wx hV hdep hval hj hsm hr
          have e32 : aa.tmps.getD 32 undef = .pointer (some ⟨g, i * 8, none⟩) := hr 32 (by decide) (by apply Array.mem_toList_iff.1; repeat (first | exact List.Mem.head _ | apply List.Mem.tail))
          have x0 : wx.cell? ⟨g, i * 8, none⟩ = some (.string yk) := CEL.out wx hj _ _ (.inr rfl) _ o0
          rw [Array.getD_eq_getD_getElem?] at e32
          unfold Oper.wp
          simp only [execOp, Act.eval, Array.getD_eq_getD_getElem?, e32]
          go_simp
          first | exact ⟨_, rfl, rfl, Below.refl _ _⟩ | exact ⟨_, rfl, rfl, Below.refl _ _, hj⟩ | exact ⟨_, rfl, Below.refl _ _, hj⟩ | exact ⟨_, rfl, hj⟩
        | 15, ho =>
          cases ho
          intro V aa wx hV hdep hval hj hsm hr
          have e0 : aa.tmps.getD 0 undef = .pointer (some ⟨p, 0, none⟩) := hsm 0 (by decide)
          rw [Array.getD_eq_getD_getElem?] at e0
          unfold Oper.wp
          simp only [execOp, Act.eval, Array.getD_eq_getD_getElem?, e0]
          go_simp
          first | exact ⟨_, rfl, rfl, Below.refl _ _⟩ | exact ⟨_, rfl, rfl, Below.refl _ _, hj⟩ | exact ⟨_, rfl, Below.refl _ _, hj⟩ | exact ⟨_, rfl, hj⟩
        | 16, ho =>
          cases ho
          intro V aa wx hV hdep hval hj hsm hr
          have e34 : aa.tmps.getD 34 undef = .pointer (some ⟨p, 0, none⟩) := hr 34 (by decide) (by apply Array.mem_toList_iff.1; repeat (first | exact List.Mem.head _ | apply List.Mem.tail))
          rw [Array.getD_eq_getD_getElem?] at e34
          unfold Oper.wp
          simp only [execOp, Act.eval, Array.getD_eq_getD_getElem?, e34]
          go_simp
          first | exact ⟨_, rfl, rfl, Below.refl _ _⟩ | exact ⟨_, rfl, rfl, Below.refl _ _, hj⟩ | exact ⟨_, rfl, Below.refl _ _, hj⟩ | exact ⟨_, rfl, hj⟩
        | 17, ho =>
          cases ho
          intro V aa wx hV hdep hval hj hsm hr
          have e35 : aa.tmps.getD 35 undef = .pointer (some ⟨p, 0, none⟩) := hr 35 (by decide) (by apply Array.mem_toList_iff.1; repeat (first | exact List.Mem.head _ | apply List.Mem.tail))
          rw [Array.getD_eq_getD_getElem?] at e35
          unfold Oper.wp
          simp only [execOp, Act.eval, Array.getD_eq_getD_getElem?, e35]
          go_simp
          first | exact ⟨_, rfl, rfl, Below.refl _ _⟩ | exact ⟨_, rfl, rfl, Below.refl _ _, hj⟩ | exact ⟨_, rfl, Below.refl _ _, hj⟩ | exact ⟨_, rfl, hj⟩
        | 18, ho =>
          cases ho
          intro V aa wx hV hdep hval hj hsm hr
          have e36 : aa.tmps.getD 36 undef = .pointer (some ⟨p, 0, none⟩) := hr 36 (by decide) (by apply Array.mem_toList_iff.1; repeat (first | exact List.Mem.head _ | apply List.Mem.tail))
          have c0 : wx.cell? ⟨p, 0, none⟩ = some (.slice (some ⟨g, 0, none⟩) n cap) := CEL.out wx hj _ _ (.inl rfl) _ c0r
          rw [Array.getD_eq_getD_getElem?] at e36
          unfold Oper.wp
          simp only [execOp, Act.eval, Array.getD_eq_getD_getElem?, e36]
          go_simp
          first | exact ⟨_, rfl, rfl, Below.refl _ _⟩ | exact ⟨_, rfl, rfl, Below.refl _ _, hj⟩ | exact ⟨_, rfl, Below.refl _ _, hj⟩ | exact ⟨_, rfl, hj⟩
        | 19, ho =>
          cases ho
          intro V aa wx hV hdep hval hj hsm hr
          have e6 : aa.tmps.getD 6 undef = .int .i64 i := hsm 6 (by decide)
          rw [Array.getD_eq_getD_getElem?] at e6
          unfold Oper.wp
          simp only [execOp, Act.eval, Array.getD_eq_getD_getElem?, e6]
          go_simp
          first | exact ⟨_, rfl, rfl, Below.refl _ _⟩ | exact ⟨_, rfl, rfl, Below.refl _ _, hj⟩ | exact ⟨_, rfl, Below.refl _ _, hj⟩ | exact ⟨_, rfl, hj⟩
        | 20, ho =>
          cases ho
          intro V aa wx hV hdep hval hj hsm hr
          have e37 : aa.tmps.getD 37 undef = .slice (some ⟨g, 0, none⟩) n cap := hr 37 (by decide) (by apply Array.mem_toList_iff.1; repeat (first | exact List.Mem.head _ | apply List.Mem.tail))
          have e38 : aa.tmps.getD 38 undef = .int .i64 i := hr 38 (by decide) (by apply Array.mem_toList_iff.1; repeat (first | exact List.Mem.head _ | apply List.Mem.tail))
          have al0 : (i : Int) < (n : Int) := lti
          rw [Array.getD_eq_getD_getElem?] at e37
          rw [Array.getD_eq_getD_getElem?] at e38
          unfold Oper.wp
          simp only [execOp, Act.eval, Array.getD_eq_getD_getElem?, e37, e38]
          go_simp
          first | exact ⟨_, rfl, rfl, Below.refl _ _⟩ | exact ⟨_, rfl, rfl, Below.refl _ _, hj⟩ | exact ⟨_, rfl, Below.refl _ _, hj⟩ | exact ⟨_, rfl, hj⟩
        | 21, ho =>
          cases ho
          intro V aa wx hV hdep hval hj hsm hr
          have e39 : aa.tmps.getD 39 undef = .pointer (some ⟨g, i * 8, none⟩) := hr 39 (by decide) (by apply Array.mem_toList_iff.1; repeat (first | exact List.Mem.head _ | apply List.Mem.tail))
          rw [Array.getD_eq_getD_getElem?] at e39
          unfold Oper.wp
          simp only [execOp, Act.eval, Array.getD_eq_getD_getElem?, e39]
          go_simp
          first | exact ⟨_, rfl, rfl, Below.refl _ _⟩ | exact ⟨_, rfl, rfl, Below.refl _ _, hj⟩ | exact ⟨_, rfl, Below.refl _ _, hj⟩ | exact ⟨_, rfl, hj⟩
        | 22, ho =>
          cases ho
          intro V aa wx hV hdep hval hj hsm hr
          have e40 : aa.tmps.getD 40 undef = .pointer (some ⟨g, i * 8 + 1, none⟩) := hr 40 (by decide) (by apply Array.mem_toList_iff.1; repeat (first | exact List.Mem.head _ | apply List.Mem.tail))
          have x1 : wx.cell? ⟨g, i * 8 + 1, none⟩ = some (.int .i64 yf) := CEL.out wx hj _ _ (.inr rfl) _ o1
          rw [Array.getD_eq_getD_getElem?] at e40
          unfold Oper.wp
          simp only [execOp, Act.eval, Array.getD_eq_getD_getElem?, e40]
          go_simp
          first | exact ⟨_, rfl, rfl, Below.refl _ _⟩ | exact ⟨_, rfl, rfl, Below.refl _ _, hj⟩ | exact ⟨_, rfl, Below.refl _ _, hj⟩ | exact ⟨_, rfl, hj⟩
        | 23, ho =>
          cases ho
          intro V aa wx hV hdep hval hj hsm hr
          have e0 : aa.tmps.getD 0 undef = .pointer (some ⟨p, 0, none⟩) := hsm 0 (by decide)
          rw [Array.getD_eq_getD_getElem?] at e0
          unfold Oper.wp
          simp only [execOp, Act.eval, Array.getD_eq_getD_getElem?, e0]
          go_simp
          first | exact ⟨_, rfl, rfl, Below.refl _ _⟩ | exact ⟨_, rfl, rfl, Below.refl _ _, hj⟩ | exact ⟨_, rfl, Below.refl _ _, hj⟩ | exact ⟨_, rfl, hj⟩
        | 24, ho =>
          cases ho
          intro V aa wx hV hdep hval hj hsm hr
          have e42 : aa.tmps.getD 42 undef = .pointer (some ⟨p, 0, none⟩) := hr 42 (by decide) (by apply Array.mem_toList_iff.1; repeat (first | exact List.Mem.head _ | apply List.Mem.tail))
          rw [Array.getD_eq_getD_getElem?] at e42
          unfold Oper.wp
          simp only [execOp, Act.eval, Array.getD_eq_getD_getElem?, e42]
          go_simp
          first | exact ⟨_, rfl, rfl, Below.refl _ _⟩ | exact ⟨_, rfl, rfl, Below.refl _ _, hj⟩ | exact ⟨_, rfl, Below.refl _ _, hj⟩ | exact ⟨_, rfl, hj⟩
        | 25, ho =>
          cases ho
          intro V aa wx hV hdep hval hj hsm hr
          have e43 : aa.tmps.getD 43 undef = .pointer (some ⟨p, 0, none⟩) := hr 43 (by decide) (by apply Array.mem_toList_iff.1; repeat (first | exact List.Mem.head _ | apply List.Mem.tail))
          rw [Array.getD_eq_getD_getElem?] at e43
          unfold Oper.wp
          simp only [execOp, Act.eval, Array.getD_eq_getD_getElem?, e43]
          go_simp
          first | exact ⟨_, rfl, rfl, Below.refl _ _⟩ | exact ⟨_, rfl, rfl, Below.refl _ _, hj⟩ | exact ⟨_, rfl, Below.refl _ _, hj⟩ | exact ⟨_, rfl, hj⟩
        | 26, ho =>
          cases ho
          intro V aa wx hV hdep hval hj hsm hr
          have e44 : aa.tmps.getD 44 undef = .pointer (some ⟨p, 0, none⟩) := hr 44 (by decide) (by apply Array.mem_toList_iff.1; repeat (first | exact List.Mem.head _ | apply List.Mem.tail))
          have c0 : wx.cell? ⟨p, 0, none⟩ = some (.slice (some ⟨g, 0, none⟩) n cap) := CEL.out wx hj _ _ (.inl rfl) _ c0r
          rw [Array.getD_eq_getD_getElem?] at e44
          unfold Oper.wp
          simp only [execOp, Act.eval, Array.getD_eq_getD_getElem?, e44]
          go_simp
          first | exact ⟨_, rfl, rfl, Below.refl _ _⟩ | exact ⟨_, rfl, rfl, Below.refl _ _, hj⟩ | exact ⟨_, rfl, Below.refl _ _, hj⟩ | exact ⟨_, rfl, hj⟩
        | 27, ho =>
          cases ho
          intro V aa wx hV hdep hval hj hsm hr
          have e6 : aa.tmps.getD 6 undef = .int .i64 i := hsm 6 (by decide)
          rw [Array.getD_eq_getD_getElem?] at e6
          unfold Oper.wp
          simp only [execOp, Act.eval, Array.getD_eq_getD_getElem?, e6]
          go_simp
          first | exact ⟨_, rfl, rfl, Below.refl _ _⟩ | exact ⟨_, rfl, rfl, Below.refl _ _, hj⟩ | exact ⟨_, rfl, Below.refl _ _, hj⟩ | exact ⟨_, rfl, hj⟩
        | 28, ho =>
          cases ho
          intro V aa wx hV hdep hval hj hsm hr
          have e45 : aa.tmps.getD 45 undef = .slice (some ⟨g, 0, none⟩) n cap := hr 45 (by decide) (by apply Array.mem_toList_iff.1; repeat (first | exact List.Mem.head _ | apply List.Mem.tail))
          have e46 : aa.tmps.getD 46 undef = .int .i64 i := hr 46 (by decide) (by apply Array.mem_toList_iff.1; repeat (first | exact List.Mem.head _ | apply List.Mem.tail))
          have al0 : (i : Int) < (n : Int) := lti
          rw [Array.getD_eq_getD_getElem?] at e45
          rw [Array.getD_eq_getD_getElem?] at e46
          unfold Oper.wp
          simp only [execOp, Act.eval, Array.getD_eq_getD_getElem?, e45, e46]
          go_simp
          first | exact ⟨_, rfl, rfl, Below.refl _ _⟩ | exact ⟨_, rfl, rfl, Below.refl _ _, hj⟩ | exact ⟨_, rfl, Below.refl _ _, hj⟩ | exact ⟨_, rfl, hj⟩
        | 29, ho =>
          cases ho
          intro V aa wx hV hdep hval hj hsm hr
          have e47 : aa.tmps.getD 47 undef = .pointer (some ⟨g, i * 8, none⟩) := hr 47 (by decide) (by apply Array.mem_toList_iff.1; repeat (first | exact List.Mem.head _ | apply List.Mem.tail))
          rw [Array.getD_eq_getD_getElem?] at e47
          unfold Oper.wp
          simp only [execOp, Act.eval, Array.getD_eq_getD_getElem?, e47]
          go_simp
          first | exact ⟨_, rfl, rfl, Below.refl _ _⟩ | exact ⟨_, rfl, rfl, Below.refl _ _, hj⟩ | exact ⟨_, rfl, Below.refl _ _, hj⟩ | exact ⟨_, rfl, hj⟩
        | 30, ho =>
          cases ho
          intro V aa wx hV hdep hval hj hsm hr
          have e48 : aa.tmps.getD 48 undef = .pointer (some ⟨g, i * 8 + 2, none⟩) := hr 48 (by decide) (by apply Array.mem_toList_iff.1; repeat (first | exact List.Mem.head _ | apply List.Mem.tail))
          have x2 : wx.cell? ⟨g, i * 8 + 2, none⟩ = some (.int .i64 yt) := CEL.out wx hj _ _ (.inr rfl) _ o2
          rw [Array.getD_eq_getD_getElem?] at e48
          unfold Oper.wp
          simp only [execOp, Act.eval, Array.getD_eq_getD_getElem?, e48]
          go_simp
          first | exact ⟨_, rfl, rfl, Below.refl _ _⟩ | exact ⟨_, rfl, rfl, Below.refl _ _, hj⟩ | exact ⟨_, rfl, Below.refl _ _, hj⟩ | exact ⟨_, rfl, hj⟩
        | 31, ho =>
          cases ho
          intro V aa wx hV hdep hval hj hsm hr
          have e25 : aa.tmps.getD 25 undef = .agg #[.string mk, .int .i64 mf, .int .i64 mt, .int .i64 mc, .int .i64 mg, .int .i64 mv, .int .i64 mz, .bool mb] := hr 25 (by decide) (by apply Array.mem_toList_iff.1; repeat (first | exact List.Mem.head _ | apply List.Mem.tail))
          have e33 : aa.tmps.getD 33 undef = .string yk := hr 33 (by decide) (by apply Array.mem_toList_iff.1; repeat (first | exact List.Mem.head _ | apply List.Mem.tail))
          have e41 : aa.tmps.getD 41 undef = .int .i64 yf := hr 41 (by decide) (by apply Array.mem_toList_iff.1; repeat (first | exact List.Mem.head _ | apply List.Mem.tail))
          have e49 : aa.tmps.getD 49 undef = .int .i64 yt := hr 49 (by decide) (by apply Array.mem_toList_iff.1; repeat (first | exact List.Mem.head _ | apply List.Mem.tail))
          rw [Array.getD_eq_getD_getElem?] at e25
          rw [Array.getD_eq_getD_getElem?] at e33
          rw [Array.getD_eq_getD_getElem?] at e41
          rw [Array.getD_eq_getD_getElem?] at e49
          unfold Oper.wp
          simp only [execOp, Act.eval, Array.getD_eq_getD_getElem?, e25, e33, e41, e49]
          go_simp
          refine (is_b ⟨mk, mf, mt, mc, mg, mv, mz, mb⟩ ⟨yk, yf, yt⟩ wx).mono ?_
          rintro e w' ⟨rfl, hb⟩
          exact ⟨_, rfl, rfl, hb, hj.trans (hb.mono hj.size)⟩
        | _ + 32, ho => cases ho
      case fin =>
        intro ff V ws hV hjs hr
        have e50 : ff 50 = .bool (isM ⟨mk, mf, mt, mc, mg, mv, mz, mb⟩ ⟨yk, yf, yt⟩) := hr 50 (by decide)
        have HBS := hide (And.intro (HBR.out.1.trans (hjs.mono HBR.out.2)) (Nat.le_trans HBR.out.2 hjs.size))
        have OWS := hide (own_belowR HOW.out hjs)
        have HQS := hide (HQR.out.below hjs)
        have HTS := hide (show l.take (jj + 1) = l.take jj ++ [⟨mk, mf, mt, mc, mg, mv, mz, mb⟩] by
          obtain ⟨hl1, he1⟩ := List.getElem?_eq_some_iff.1 HM.out
          rw [List.take_succ_eq_append_getElem hl1, he1])
        have hul := picked_len (l.take jj) ⟨yk, yf, yt⟩
        have HUL := hide (show (picked (l.take jj) ⟨yk, yf, yt⟩).length ≤ 1000 by rw [List.length_take] at hul; omega)
        have c0 : ws.cell? ⟨p, 0, none⟩ = some (.slice (some ⟨g, 0, none⟩) n cap) := CEL.out ws hjs _ _ (.inl rfl) _ c0r
        have x0 : ws.cell? ⟨g, jj * 8, none⟩ = some (.string mk) := CEL.out ws hjs _ _ (.inr rfl) _ n0
        have x1 : ws.cell? ⟨g, jj * 8 + 1, none⟩ = some (.int .i64 mf) := CEL.out ws hjs _ _ (.inr rfl) _ n1
        have x2 : ws.cell? ⟨g, jj * 8 + 2, none⟩ = some (.int .i64 mt) := CEL.out ws hjs _ _ (.inr rfl) _ n2
        have x3 : ws.cell? ⟨g, jj * 8 + 3, none⟩ = some (.int .i64 mc) := CEL.out ws hjs _ _ (.inr rfl) _ n3
        have x4 : ws.cell? ⟨g, jj * 8 + 4, none⟩ = some (.int .i64 mg) := CEL.out ws hjs _ _ (.inr rfl) _ n4
        have x5 : ws.cell? ⟨g, jj * 8 + 5, none⟩ = some (.int .i64 mv) := CEL.out ws hjs _ _ (.inr rfl) _ n5
        have x6 : ws.cell? ⟨g, jj * 8 + 6, none⟩ = some (.int .i64 mz) := CEL.out ws hjs _ _ (.inr rfl) _ n6
        have x7 : ws.cell? ⟨g, jj * 8 + 7, none⟩ = some (.bool mb) := CEL.out ws hjs _ _ (.inr rfl) _ n7
        simp only [putAll, slotsOf, List.filterMap_cons, List.filterMap_nil, List.foldl_cons, List.foldl_nil, Act.put, e50]
        simp only [List.setIfInBounds_toArray, List.set_cons_succ, List.set_cons_zero]
        obtain ⟨bb, hbb⟩ : ∃ z, isM ⟨mk, mf, mt, mc, mg, mv, mz, mb⟩ ⟨yk, yf, yt⟩ = z := ⟨_, rfl⟩
        rw [hbb]
        have HBBv := hide hbb
        clear hV hr hjs e50 hul hbb n0 n1 n2 n3 n4 n5 n6 n7 o0 o1 o2 c0r
        cases bb with
        | false =>
          have HU : Hid (picked (l.take (jj + 1)) ⟨yk, yf, yt⟩ = picked (l.take jj) ⟨yk, yf, yt⟩) := hide (by rw [HTS.out, picked_app]; simp [picked, HBBv.out])
          go_wp2_with fail
          go_roundw
          case rel => exact ⟨jj + 1, A1, c1, HLT.out, by go_num, by rw [HU.out], by rw [HU.out]; exact OWS, HQS, HBS⟩
          case measure => have := HLT.out; simp [RowKit.intOf] <;> omega
        | true =>
          have HU : Hid (picked (l.take (jj + 1)) ⟨yk, yf, yt⟩ = picked (l.take jj) ⟨yk, yf, yt⟩ ++ [⟨mk, mf, mt, mc, mg, mv, mz, mb⟩]) := hide (by rw [HTS.out, picked_app]; simp [picked, HBBv.out])
          obtain ⟨A2, c2, w2, hrun, hown, hgr, _⟩ := push_m ws w.heap.size A1 c1 _ _ ⟨mk, mf, mt, mc, mg, mv, mz, mb⟩ OWS.out HBS.out.2 (by have := HUL.out; omega)
          have HB2 := hide (And.intro (HBS.out.1.grown hgr HBS.out.2 fun k e => (own_block OWS.out e).1) (Nat.le_trans HBS.out.2 hgr.size))
          have HLN := hide (show (picked (l.take (jj + 1)) ⟨yk, yf, yt⟩).length = (picked (l.take jj) ⟨yk, yf, yt⟩).length + 1 by rw [HU.out]; simp)
          have OW2 := hide (show w2.ownsRow w.heap.size 31 8 (.slice A2 ((picked (l.take jj) ⟨yk, yf, yt⟩).length + 1) c2) ((picked (l.take jj) ⟨yk, yf, yt⟩).length + 1) (msgCs (picked (l.take (jj + 1)) ⟨yk, yf, yt⟩)) by
            rw [HU.out, msgCs_app]
            simpa [msgCs] using hown)
          have HQ2 := hide (HQ0.out.below HB2.out.1)
          have RUN := hide hrun
          clear hrun hown hgr
          go_wp2_with (at_builtin; refine Lib.wpList_append_run _ rfl _ _ 27 27 rfl _ _ rfl rfl _ _ RUN.out ?_)
          go_roundw
          case rel => exact ⟨jj + 1, A2, c2, HLT.out, by go_num, by rw [HLN.out], by rw [HLN.out]; exact OW2, HQ2, HB2⟩
          case measure => have := HLT.out; simp [RowKit.intOf] <;> omega
end Qu
end Go.Proofs.Ytomladbdebfikaa
