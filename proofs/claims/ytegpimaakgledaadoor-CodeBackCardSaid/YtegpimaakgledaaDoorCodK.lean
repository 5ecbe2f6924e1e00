/- The laws' row: instructions by operations and numbers. -/
import Derived.Test.YtegpimaakgledaaDoorRows
import Derived.Test.YtegpimaakgledaaDoorCodJ
import Derived.Test.YtegpimaakgledaaDoorRelT
import Derived.BigQuiet
import Derived.LoopN
namespace Go.Proofs.YtegpimaakgledaaDoor
open Go Go.RowKit
set_option linter.unusedVariables false
set_option linter.unusedSimpArgs false
namespace Cod
theorem below_grown {w0 w w' : World} {e : TypeId} {size n : Nat} {v : Value} {xs : List Value} (hb : Below w0.heap.size w0 w) (ho : w.ownsRow w0.heap.size e size v n xs) (hg : w.grownBy w' v.ownBlock) : Below w0.heap.size w0 w' :=
  { os := hg.os.trans hb.os, tape := hg.tape.trans hb.tape, output := hg.output.trans hb.output, size := Nat.le_trans hb.size hg.size, block := fun i hi => (hg.block i (Nat.lt_of_lt_of_le hi hb.size) (fun e => by
      rcases ho.2 with ⟨rfl, _⟩ | ⟨g, cap, cur, rfl, hge, _⟩
      · cases e
      · have : i = g := by simpa [Value.ownBlock] using e
        omega)).trans (hb.block i hi) }
theorem cells_new (w : World) (cs : Array Value) (t : TypeId) : ∀ (j : Nat) (u : Value), cs.toList[j]? = some u → (w.alloc (.cells cs t)).cell? ((⟨w.heap.size, 0, none⟩ : Addr).add j) = some u := fun j u h => by
  have a0 : (⟨w.heap.size, 0, none⟩ : Addr).add j = ⟨w.heap.size, j, none⟩ := by unfold Addr.add; split <;> simp_all
  rw [a0, (Blk.new w t cs).cell j]
  simpa using h
theorem codeCs_app (cs : List In) (x : In) : codeCs (cs ++ [x]) = codeCs cs ++ [.int .u8 x.op, .int .i64 x.n] := by
  unfold codeCs
  rw [List.flatMap_append]
  rfl
set_option maxRecDepth 100000 in
set_option maxHeartbeats 8000000 in
theorem row_c (l : List Int) (xs : List In) (A : Option Addr) (cap : Nat) (w : World) (hA : IntAt w A l) (hl : l.length = 2 * xs.length) (hx : ∀ i (hi : i < xs.length), l.getD (2 * i) 0 = xs[i].op ∧ l.getD (2 * i + 1) 0 = xs[i].n) (hok : ∀ x ∈ xs, x.ok) (hn : xs.length ≤ 1000) :
    Calls Tryd.prog 38 #[.slice A l.length cap] w fun e w' => ∃ C cc, e = .returned (.slice C xs.length cc) ∧ w'.ownsRow w.heap.size 47 2 (.slice C xs.length cc) xs.length (codeCs xs) ∧ Below w.heap.size w w' := by
  obtain ⟨i0, hi0, hz0, hz1, hz2⟩ := info_parts instr_info
  have HI := hide (And.intro hi0 (And.intro hz0 (And.intro hz1 hz2)))
  have HA := hide hA
  have HX := hide hx
  have HOK := hide hok
  obtain ⟨n, hnn⟩ : ∃ n, xs.length = n := ⟨_, rfl⟩
  rw [hnn] at hl hn
  have HN := hide hnn
  have HL := hide hl
  rw [hl]
  obtain ⟨M, hM⟩ : ∃ M, 2 * n = M := ⟨_, rfl⟩
  rw [hM]
  have HM := hide hM
  clear hi0 hz0 hz1 hz2 hA hx hok hl hnn hM
  rw [HN.out]
  go_enter Tryd.func38, Tryd.ntmps38
  go_wp2_with fail
  go_loopw [3, 4] (fun vo vi wr => ∃ k J : Nat, k ≤ n ∧ Hid (J = 2 * k) ∧ vi = .int .i64 (J : Nat) ∧ Hid (wr.ownsRow w.heap.size 47 2 vo k (codeCs (xs.take k))) ∧ Hid (Below w.heap.size w wr)) (fun _ vi _ => M - (RowKit.intOf vi).toNat)
  case atStart => exact ⟨0, 0, Nat.zero_le _, hide rfl, rfl, hide ⟨rfl, .inl ⟨rfl, rfl⟩⟩, hide (Below.refl _ _)⟩
  case round =>
    obtain ⟨k, J, hk, HJ, rfl, HO, HB⟩ := hrel
    rename World => wr
    have hJ := HJ.out
    have hM := HM.out
    obtain ⟨K, hK⟩ : ∃ K, J + 1 = K := ⟨_, rfl⟩
    have m1 : IntKind.i64.wrap ((J : Int) + 1) = (K : Int) := by rw [IntKind.wrap_i64]; omega
    have m2 : IntKind.i64.wrap ((J : Int) + 2) = (J : Int) + 2 := by rw [IntKind.wrap_i64]; omega
    by_cases hlt : k < n
    · have t1 : (K : Int) < (M : Int) := by omega
      have t0 : (J : Int) < (M : Int) := by omega
      obtain ⟨ad, rfl, hadl, hc⟩ := (HA.out.below HB.out) (by have := HL.out; omega)
      have e0 := (hc J (by have := HL.out; omega)).1
      have e1 := (hc (J + 1) (by have := HL.out; omega)).1
      obtain ⟨g0, g1⟩ := HX.out k (by have := HN.out; omega)
      obtain ⟨o1, o2, o3, o4⟩ := HOK.out _ (List.getElem_mem (show k < xs.length by have := HN.out; omega))
      rw [← hJ, List.getD_eq_getElem?_getD, List.getElem?_eq_getElem (by have := HL.out; omega)] at g0 g1
      obtain ⟨x, hxk⟩ : ∃ x, xs[k]'(by have := HN.out; omega) = x := ⟨_, rfl⟩
      have htk : xs.take (k + 1) = xs.take k ++ [x] := by rw [List.take_succ_eq_append_getElem (by have := HN.out; omega), hxk]
      have HTK := hide htk
      rw [hxk] at g0 g1 o1 o2 o3 o4
      have e0' : wr.cell? (ad.add J) = some (.int .i64 x.op) := by rw [e0]; exact congrArg (fun z => some (Value.int .i64 z)) g0
      have e1' : wr.cell? (ad.add K) = some (.int .i64 x.n) := by rw [← hK, e1]; exact congrArg (fun z => some (Value.int .i64 z)) g1
      obtain ⟨o, nn⟩ := x
      simp only at e0' e1' o1 o2 o3 o4
      have cv : IntKind.u8.wrap o = o := by simp [IntKind.wrap, IntKind.bits, IntKind.signed]; omega
      have hs := HB.out.size
      have HK := hide (show k + 1 ≤ n ∧ J + 2 = 2 * (k + 1) by omega)
      have hone : ∀ u ∈ [Value.int .u8 o, Value.int .i64 nn], u.oneCell' = true := codeCs_one [⟨o, nn⟩]
      have HS := hide hs
      clear e0 e1 g0 g1 hxk htk hc o1 o2 o3 o4 hJ hM hs hK
      go_wp2_with fail
      let R : Nat → Value → World → Prop := fun sl u w1 => match sl with
        | 12 => u = u3
        | 13 | 18 => u = .slice (some ad) M cap
        | 14 | 19 => u = .int .i64 (J : Nat)
        | 15 => u = .pointer (some (ad.add J))
        | 16 => u = .int .i64 o
        | 17 => u = .int .u8 o
        | 20 => u = .int .i64 (K : Nat)
        | 21 => u = .pointer (some (ad.add K))
        | 22 => u = .int .i64 nn
        | 23 => u = .agg #[.int .u8 o, .int .i64 nn]
        | 24 => ∃ g, u = .slice (some ⟨g, 0, none⟩) 1 1 ∧ wr.heap.size ≤ g ∧ Blk w1 g 47 #[.int .u8 o, .int .i64 nn]
        | _ => True
      refine wp_region_relT 13 R (by kernel_rfl) (by kernel_rfl) (by kernel_rfl) (by kernel_rfl) ?mono ?step ?fin
      case mono =>
        intro sl u w1 w2 h hb
        match sl with
        | 24 =>
          obtain ⟨g, h1, h2, h3⟩ := h
          exact ⟨g, h1, h2, h3.below hb h3.lt⟩
        | 0 | 1 | 2 | 3 | 4 | 5 | 6 | 7 | 8 | 9 | 10 | 11 | 12 | 13 | 14 | 15 | 16 | 17 | 18 | 19 | 20 | 21 | 22 | 23 | _ + 25 => exact h
      case fin =>
        intro ff w9 hb hr
        obtain ⟨g, e24, hg, hgb⟩ := hr 24 (by decide)
        have e12 : ff 12 = u3 := hr 12 (by decide)
        have hgb : Blk w9 g 47 #[.int .u8 o, .int .i64 nn] := hgb
        have hown := own_belowR HO.out hb
        obtain ⟨hi0, hz0, hz1, hz2⟩ := HI.out
        have hrd : Reads w9 w9.heap.size 2 (some ⟨g, 0, none⟩) 1 [.int .u8 o, .int .i64 nn] := ⟨rfl, fun _ => ⟨_, rfl, hgb.lt, fun j u hj => by
          have a0 : (⟨g, 0, none⟩ : Addr).add j = ⟨g, j, none⟩ := by unfold Addr.add; split <;> simp_all
          rw [a0, hgb.cell j]
          simpa using hj⟩⟩
        have hs9 := Nat.le_trans HS.out hb.size
        obtain ⟨v9, w10, hrun, hown2, hgr, hbk⟩ := run_append_any (P := Tryd.prog) w9 w.heap.size 22 22 47 i0 _ 2 16 Tryd.underlying22 hi0 hz0 hz1 hz2 (by rfl) (by omega) _ _ _ hown w9.heap.size _ 1 1 _ hrd hone (by unfold maxLen; omega) (by omega) hs9
        have HB2 := hide (below_grown (HB.out.trans (hb.mono HS.out)) hown hgr)
        have HO2 : Hid (w10.ownsRow w.heap.size 47 2 v9 (k + 1) (codeCs (xs.take (k + 1)))) := hide (by rw [HTK.out, codeCs_app]; exact hown2)
        have RUN := hide hrun
        clear hr hb hgb hown hrd hrun hown2 hgr hbk hg hs9 hi0 hz0 hz1 hz2 HO HB
        simp only [putAll, slotsOf, List.take, List.drop, List.filterMap_cons, List.filterMap_nil, List.foldl_cons, List.foldl_nil, Act.put, e12, e24]
        simp only [List.setIfInBounds_toArray, List.set_cons_succ, List.set_cons_zero]
        go_wp2_with (at_builtin; refine Lib.wpList_append_run _ rfl (.tmp 12) (.tmp 24) 22 22 rfl _ _ rfl rfl _ _ RUN.out ?_)
        go_roundw
        case rel => exact ⟨k + 1, J + 2, HK.out.1, hide HK.out.2, by go_num, HO2, HB2⟩
        case measure => simp [RowKit.intOf] <;> omega
      case step =>
        intro o ho
        simp only [List.take, List.mem_cons, List.not_mem_nil, or_false] at ho
        rcases ho with rfl | rfl | rfl | rfl | rfl | rfl | rfl | rfl | rfl | rfl | rfl | rfl | rfl
        · intro a w1 hb hs hr
          have e3 : a.tmps.getD 3 undef = u3 := hs 3 (by decide)
          rw [Array.getD_eq_getD_getElem?] at e3
          unfold Oper.wp
          simp only [execOp, Act.eval, Array.getD_eq_getD_getElem?, e3]
          go_simp
          exact ⟨_, rfl, rfl, Below.refl _ _⟩
        · intro a w1 hb hs hr
          have e0 : a.tmps.getD 0 undef = .slice (some ad) M cap := hs 0 (by decide)
          rw [Array.getD_eq_getD_getElem?] at e0
          unfold Oper.wp
          simp only [execOp, Act.eval, Array.getD_eq_getD_getElem?, e0]
          go_simp
          exact ⟨_, rfl, rfl, Below.refl _ _⟩
        · intro a w1 hb hs hr
          have e4 : a.tmps.getD 4 undef = .int .i64 (J : Nat) := hs 4 (by decide)
          rw [Array.getD_eq_getD_getElem?] at e4
          unfold Oper.wp
          simp only [execOp, Act.eval, Array.getD_eq_getD_getElem?, e4]
          go_simp
          exact ⟨_, rfl, rfl, Below.refl _ _⟩
        · intro a w1 hb hs hr
          have e13 : a.tmps.getD 13 undef = .slice (some ad) M cap := hr 13 (by decide) (by apply Array.mem_toList_iff.1; repeat (first | exact List.Mem.head _ | apply List.Mem.tail))
          have e14 : a.tmps.getD 14 undef = .int .i64 (J : Nat) := hr 14 (by decide) (by apply Array.mem_toList_iff.1; repeat (first | exact List.Mem.head _ | apply List.Mem.tail))
          rw [Array.getD_eq_getD_getElem?] at e13
          rw [Array.getD_eq_getD_getElem?] at e14
          unfold Oper.wp
          simp only [execOp, Act.eval, Array.getD_eq_getD_getElem?, e13, e14]
          go_simp
          exact ⟨_, rfl, rfl, Below.refl _ _⟩
        · intro a w1 hb hs hr
          have e15 : a.tmps.getD 15 undef = .pointer (some (ad.add J)) := hr 15 (by decide) (by apply Array.mem_toList_iff.1; repeat (first | exact List.Mem.head _ | apply List.Mem.tail))
          have cc : w1.cell? (ad.add J) = some (.int .i64 o) := (hb.cell (by rw [block_of_add]; exact hadl)).trans e0'
          rw [Array.getD_eq_getD_getElem?] at e15
          unfold Oper.wp
          simp only [execOp, Act.eval, Array.getD_eq_getD_getElem?, e15]
          go_simp
          exact ⟨_, rfl, rfl, Below.refl _ _⟩
        · intro a w1 hb hs hr
          have e16 : a.tmps.getD 16 undef = .int .i64 o := hr 16 (by decide) (by apply Array.mem_toList_iff.1; repeat (first | exact List.Mem.head _ | apply List.Mem.tail))
          rw [Array.getD_eq_getD_getElem?] at e16
          unfold Oper.wp
          simp only [execOp, Act.eval, Array.getD_eq_getD_getElem?, e16]
          go_simp
          exact ⟨_, rfl, rfl, Below.refl _ _⟩
        · intro a w1 hb hs hr
          have e0 : a.tmps.getD 0 undef = .slice (some ad) M cap := hs 0 (by decide)
          rw [Array.getD_eq_getD_getElem?] at e0
          unfold Oper.wp
          simp only [execOp, Act.eval, Array.getD_eq_getD_getElem?, e0]
          go_simp
          exact ⟨_, rfl, rfl, Below.refl _ _⟩
        · intro a w1 hb hs hr
          have e4 : a.tmps.getD 4 undef = .int .i64 (J : Nat) := hs 4 (by decide)
          rw [Array.getD_eq_getD_getElem?] at e4
          unfold Oper.wp
          simp only [execOp, Act.eval, Array.getD_eq_getD_getElem?, e4]
          go_simp
          exact ⟨_, rfl, rfl, Below.refl _ _⟩
        · intro a w1 hb hs hr
          have e19 : a.tmps.getD 19 undef = .int .i64 (J : Nat) := hr 19 (by decide) (by apply Array.mem_toList_iff.1; repeat (first | exact List.Mem.head _ | apply List.Mem.tail))
          rw [Array.getD_eq_getD_getElem?] at e19
          unfold Oper.wp
          simp only [execOp, Act.eval, Array.getD_eq_getD_getElem?, e19]
          go_simp
          exact ⟨_, rfl, rfl, Below.refl _ _⟩
        · intro a w1 hb hs hr
          have e18 : a.tmps.getD 18 undef = .slice (some ad) M cap := hr 18 (by decide) (by apply Array.mem_toList_iff.1; repeat (first | exact List.Mem.head _ | apply List.Mem.tail))
          have e20 : a.tmps.getD 20 undef = .int .i64 (K : Nat) := hr 20 (by decide) (by apply Array.mem_toList_iff.1; repeat (first | exact List.Mem.head _ | apply List.Mem.tail))
          rw [Array.getD_eq_getD_getElem?] at e18
          rw [Array.getD_eq_getD_getElem?] at e20
          unfold Oper.wp
          simp only [execOp, Act.eval, Array.getD_eq_getD_getElem?, e18, e20]
          go_simp
          exact ⟨_, rfl, rfl, Below.refl _ _⟩
        · intro a w1 hb hs hr
          have e21 : a.tmps.getD 21 undef = .pointer (some (ad.add K)) := hr 21 (by decide) (by apply Array.mem_toList_iff.1; repeat (first | exact List.Mem.head _ | apply List.Mem.tail))
          have cc : w1.cell? (ad.add K) = some (.int .i64 nn) := (hb.cell (by rw [block_of_add]; exact hadl)).trans e1'
          rw [Array.getD_eq_getD_getElem?] at e21
          unfold Oper.wp
          simp only [execOp, Act.eval, Array.getD_eq_getD_getElem?, e21]
          go_simp
          exact ⟨_, rfl, rfl, Below.refl _ _⟩
        · intro a w1 hb hs hr
          have e17 : a.tmps.getD 17 undef = .int .u8 o := hr 17 (by decide) (by apply Array.mem_toList_iff.1; repeat (first | exact List.Mem.head _ | apply List.Mem.tail))
          have e22 : a.tmps.getD 22 undef = .int .i64 nn := hr 22 (by decide) (by apply Array.mem_toList_iff.1; repeat (first | exact List.Mem.head _ | apply List.Mem.tail))
          rw [Array.getD_eq_getD_getElem?] at e17
          rw [Array.getD_eq_getD_getElem?] at e22
          unfold Oper.wp
          simp only [execOp, Act.eval, Array.getD_eq_getD_getElem?, e17, e22]
          go_simp
          exact ⟨_, rfl, rfl, Below.refl _ _⟩
        · intro a w1 hb hs hr
          have e23 : a.tmps.getD 23 undef = .agg #[.int .u8 o, .int .i64 nn] := hr 23 (by decide) (by apply Array.mem_toList_iff.1; repeat (first | exact List.Mem.head _ | apply List.Mem.tail))
          rw [Array.getD_eq_getD_getElem?] at e23
          unfold Oper.wp
          simp only [execOp, Act.eval, Array.getD_eq_getD_getElem?, e23]
          go_simp
          exact ⟨_, rfl, ⟨w1.heap.size, rfl, hb.size, Blk.new w1 47 #[.int .u8 o, .int .i64 nn]⟩, (Below.refl _ _).alloc (Nat.le_refl _) _⟩
    have t1 : ¬ (K : Int) < (M : Int) := by omega
    obtain rfl : k = n := by omega
    clear hJ hM hK
    have hown := HO.out
    rw [List.take_of_length_le (by have := HN.out; omega)] at hown
    obtain ⟨C, cc, rfl⟩ := slice_of_own hown
    have FIN := hide (And.intro hown HB.out)
    clear hown HO HB
    go_wp2_with fail
    go_ret
    exact ⟨_, _, rfl, FIN.out⟩
end Cod
end Go.Proofs.YtegpimaakgledaaDoor
