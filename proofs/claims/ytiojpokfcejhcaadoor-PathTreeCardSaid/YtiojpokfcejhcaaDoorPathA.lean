/- Whether a point may be: the program's may. -/
import Derived.Test.YtiojpokfcejhcaaDoorRows
import Derived.Test.YtiojpokfcejhcaaDoorPathP
import Derived.Test.YtiojpokfcejhcaaDoorMapCh
import Derived.Test.YtiojpokfcejhcaaDoorRelK
import Derived.Deep.CutRange
import Derived.WideMake
namespace Go.Proofs.YtiojpokfcejhcaaDoor
open Go Go.RowKit
set_option linter.unusedVariables false
set_option linter.unusedSimpArgs false
/-- A box of five cells, filled. -/
theorem box5 (w : World) (t : TypeId) (d0 d1 d2 d3 d4 c0 c1 c2 c3 c4 : Value) :
    Blk ((((((w.alloc (.cells #[d0, d1, d2, d3, d4] t)).setCell ⟨w.heap.size, 0, none⟩ c0).setCell ⟨w.heap.size, 1, none⟩ c1).setCell ⟨w.heap.size, 2, none⟩ c2).setCell ⟨w.heap.size, 3, none⟩ c3).setCell ⟨w.heap.size, 4, none⟩ c4) w.heap.size t #[c0, c1, c2, c3, c4] ∧
    Below w.heap.size w ((((((w.alloc (.cells #[d0, d1, d2, d3, d4] t)).setCell ⟨w.heap.size, 0, none⟩ c0).setCell ⟨w.heap.size, 1, none⟩ c1).setCell ⟨w.heap.size, 2, none⟩ c2).setCell ⟨w.heap.size, 3, none⟩ c3).setCell ⟨w.heap.size, 4, none⟩ c4) :=
  ⟨(((((Blk.new w t #[d0, d1, d2, d3, d4]).set_ 0 c0).set_ 1 c1).set_ 2 c2).set_ 3 c3).set_ 4 c4,
   ((((((Below.refl _ w).alloc (Nat.le_refl _) _).setCell (p := ⟨w.heap.size, 0, none⟩) (Nat.le_refl _) _).setCell (p := ⟨w.heap.size, 1, none⟩) (Nat.le_refl _) _).setCell (p := ⟨w.heap.size, 2, none⟩) (Nat.le_refl _) _).setCell (p := ⟨w.heap.size, 3, none⟩) (Nat.le_refl _) _).setCell (p := ⟨w.heap.size, 4, none⟩) (Nat.le_refl _) _⟩
namespace Pth
def ones (l : List Ch) : List (Ch × Int) := l.map fun x => (x, 1)
theorem ones_len (l : List Ch) : (ones l).length = l.length := by simp [ones]
theorem ones_off {l : List Ch} {c : Ch} (h : ¬ c ∈ l) : offC (ones l) c := fun p hp e => by
  obtain ⟨x, hx, rfl⟩ := List.mem_map.1 hp
  exact h (by rw [e]; exact hx)
theorem split_first {l : List Ch} {c : Ch} (h : c ∈ l) : ∃ a b, l = a ++ c :: b ∧ ¬ c ∈ a := by
  induction l with
  | nil => cases h
  | cons x l ih =>
    by_cases e : c = x
    · exact ⟨[], l, by rw [e]; rfl, by simp⟩
    · obtain ⟨a, b, h1, h2⟩ := ih ((List.mem_cons.1 h).resolve_left e)
      exact ⟨x :: a, b, by rw [h1]; rfl, fun hm => by rcases List.mem_cons.1 hm with h3 | h3; exact e h3; exact h2 h3⟩
theorem run_lookup_ones {mt : TypeId} (hm : Tryd.prog.underlying mt = some (.map 47 3)) (c : Ch) (r : Nat) (l : List Ch) (w : World) (hb : MBlk w r (ones l)) (h : c ∈ l) :
    (Instr.lookup mt (.map (some r)) c.val false).run Tryd.prog w = .ok (.int .i64 1) w := by
  obtain ⟨a, b, rfl, hn⟩ := split_first h
  refine run_lookup_on hm c 1 r (ones a) (ones b) w ?_ (ones_off hn)
  have e : ones (a ++ c :: b) = ones a ++ (c, 1) :: ones b := by simp [ones]
  rw [← e]
  exact hb
set_option maxRecDepth 100000 in
set_option maxHeartbeats 8000000 in
theorem may_a (r c : Int) (A : Option Addr) (cap : Nat) (l : List Ch) (w : World) (h : CRow w A l) (hl : l.length ≤ 1000) :
    Calls Tryd.prog 22 #[.agg #[.int .i64 r, .int .i64 c, .slice A l.length cap]] w fun e w' => e = .returned (.bool (decide (mayV r c l))) ∧ Below w.heap.size w w' := by
  have bk := Blk.new w 36 #[.int .i64 r, .int .i64 c, .slice A l.length cap]
  have hb1 := (Below.refl w.heap.size w).alloc (Nat.le_refl _) (.cells #[.int .i64 r, .int .i64 c, .slice A l.length cap] 36)
  have hs1 : (w.alloc (.cells #[.int .i64 r, .int .i64 c, .slice A l.length cap] 36)).heap.size = w.heap.size + 1 := by simp
  obtain ⟨W1, hW1⟩ : ∃ W1, w.alloc (.cells #[.int .i64 r, .int .i64 c, .slice A l.length cap] 36) = W1 := ⟨_, rfl⟩
  rw [hW1] at bk hb1 hs1
  have hmm : (Instr.makeMap 72 none).run Tryd.prog W1 = .ok (.map (some (w.heap.size + 1))) (W1.alloc (.map #[] 0)) := by rw [← hs1]; exact run_makeMap_plain W1 _
  have hb2 := hb1.alloc (by omega) (.map #[] 0)
  have bk2 := bk.alloc (.map #[] 0)
  have mb2 : MBlk (W1.alloc (.map #[] 0)) (w.heap.size + 1) (ones []) := by
    unfold MBlk
    rw [← hs1]
    exact heap_alloc_new W1 _
  obtain ⟨W2, hW2⟩ : ∃ W2, W1.alloc (.map #[] 0) = W2 := ⟨_, rfl⟩
  rw [hW2] at hmm hb2 bk2 mb2
  have q2 : W2.cell? ⟨w.heap.size, 2, none⟩ = some (.slice A l.length cap) := bk2.cell 2
  have HB2 := hide hb2
  have BK2 := hide bk2
  have MB2 := hide mb2
  have H := hide h
  have HL := hide hl
  have NR := hide (fun k (hk : k < l.length) hz => @not_range r c l k hk hz)
  have NT := hide (fun k (hk : k < l.length) hz => @not_twice r c l k hk hz)
  have YES : Hid (okV r c (l.take l.length) → decide (mayV r c l) = decide ((0 : Int) < (l.length : Int))) := hide fun ho => by
    rw [List.take_length] at ho
    by_cases h0 : 0 < l.length
    · rw [decide_eq_true (show mayV r c l from ⟨h0, ho⟩), decide_eq_true (show (0 : Int) < (l.length : Int) by omega)]
    · rw [decide_eq_false (show ¬ mayV r c l from fun hm => h0 hm.1), decide_eq_false (show ¬ (0 : Int) < (l.length : Int) by omega)]
  have NO : Hid (¬ mayV r c l → decide (mayV r c l) = false) := hide fun hn => decide_eq_false hn
  generalize decide (mayV r c l) = res at *
  clear bk hb1 hb2 bk2 mb2 h
  go_enter Tryd.func22, Tryd.ntmps22
  go_wp2_with fail
  go_loopw [10] (fun vi wr => ∃ (k : Nat), k ≤ l.length ∧ vi = .int .i64 k ∧ Hid (okV r c (l.take k)) ∧ Hid (MBlk wr (w.heap.size + 1) (ones (l.take k))) ∧ Hid (Blk wr w.heap.size 36 #[.int .i64 r, .int .i64 c, .slice A l.length cap]) ∧ Hid (Below w.heap.size w wr)) (fun vi _ => l.length - (intOf vi).toNat)
  case atStart => exact ⟨0, by omega, rfl, hide (okV_nil r c), MB2, BK2, HB2⟩
  case round =>
    clear MB2 BK2 HB2
    obtain ⟨k, hk, rfl, HO, HMB, HBK, HB⟩ := hrel
    have p0 : wr.cell? ⟨w.heap.size, 0, none⟩ = some (.int .i64 r) := HBK.out.cell 0
    have p1 : wr.cell? ⟨w.heap.size, 1, none⟩ = some (.int .i64 c) := HBK.out.cell 1
    have p2 : wr.cell? ⟨w.heap.size, 2, none⟩ = some (.slice A l.length cap) := HBK.out.cell 2
    by_cases hlt : k < l.length
    rotate_left
    · have hk2 : k = l.length := by omega
      have hltI : ¬ (k : Int) < (l.length : Int) := by omega
      have HO2 := HO.out
      rw [hk2] at HO2
      have R := YES.out HO2
      have RR := hide R
      clear HO2 hk2 R
      go_wp2_with fail
      go_ret
      exact ⟨by simp [RR.out], HB.out⟩
    have hltI : (k : Int) < (l.length : Int) := by omega
    obtain ⟨a, rfl, ha, hc⟩ := (H.out.below HB.out).2 (by omega)
    obtain ⟨_, c0, c1, c2, c3, c4⟩ := hc k hlt
    clear hc
    have NRk := hide (NR.out k hlt)
    have NTk := hide (NT.out k hlt)
    have TSk := hide (take_snoc l k hlt)
    generalize l[k] = x at *
    obtain ⟨xr, xc, xf, xs, xv⟩ := x
    simp only at c0 c1 c2 c3 c4 NRk
    obtain ⟨bx, hbx⟩ := box5 wr 47 (.int .i64 0) (.int .i64 0) (.int .i64 0) (.int .i64 0) (.int .i64 0) (.int .i64 xr) (.int .i64 xc) (.int .i64 xf) (.int .i64 xs) (.int .i64 xv)
    have bz := Blk.new wr 47 #[.int .i64 0, .int .i64 0, .int .i64 0, .int .i64 0, .int .i64 0]
    obtain ⟨wa, hwa⟩ : ∃ x, wr.alloc (.cells #[.int .i64 0, .int .i64 0, .int .i64 0, .int .i64 0, .int .i64 0] 47) = x := ⟨_, rfl⟩
    rw [hwa] at bx hbx bz
    have z0 : wa.cell? ⟨wr.heap.size, 0, none⟩ = some (.int .i64 0) := bz.cell 0
    have z1 : wa.cell? ⟨wr.heap.size, 1, none⟩ = some (.int .i64 0) := bz.cell 1
    have z2 : wa.cell? ⟨wr.heap.size, 2, none⟩ = some (.int .i64 0) := bz.cell 2
    have z3 : wa.cell? ⟨wr.heap.size, 3, none⟩ = some (.int .i64 0) := bz.cell 3
    have z4 : wa.cell? ⟨wr.heap.size, 4, none⟩ = some (.int .i64 0) := bz.cell 4
    have f0 := bz.frozen 0
    have f1 := bz.frozen 1
    have f2 := bz.frozen 2
    have f3 := bz.frozen 3
    have f4 := bz.frozen 4
    obtain ⟨wx, hwx⟩ : ∃ x, ((((wa.setCell ⟨wr.heap.size, 0, none⟩ (.int .i64 xr)).setCell ⟨wr.heap.size, 1, none⟩ (.int .i64 xc)).setCell ⟨wr.heap.size, 2, none⟩ (.int .i64 xf)).setCell ⟨wr.heap.size, 3, none⟩ (.int .i64 xs)).setCell ⟨wr.heap.size, 4, none⟩ (.int .i64 xv) = x := ⟨_, rfl⟩
    rw [hwx] at bx hbx
    have y0 : wx.cell? ⟨wr.heap.size, 0, none⟩ = some (.int .i64 xr) := bx.cell 0
    have y1 : wx.cell? ⟨wr.heap.size, 1, none⟩ = some (.int .i64 xc) := bx.cell 1
    have y2 : wx.cell? ⟨wr.heap.size, 2, none⟩ = some (.int .i64 xf) := bx.cell 2
    have y3 : wx.cell? ⟨wr.heap.size, 3, none⟩ = some (.int .i64 xs) := bx.cell 3
    have y4 : wx.cell? ⟨wr.heap.size, 4, none⟩ = some (.int .i64 xv) := bx.cell 4
    have mbx := HMB.out.below hbx HMB.out.lt
    have bkx := HBK.out.below hbx HBK.out.lt
    have p0x : wx.cell? ⟨w.heap.size, 0, none⟩ = some (.int .i64 r) := bkx.cell 0
    have p1x : wx.cell? ⟨w.heap.size, 1, none⟩ = some (.int .i64 c) := bkx.cell 1
    have HBX := hide (HB.out.trans (hbx.mono HB.out.size))
    have HSX := hide (show wr.heap.size < wx.heap.size from bx.lt)
    have HMX := hide mbx
    have BKX := hide bkx
    have BX := hide bx
    have HMR := hide HMB.out.lt
    have LKN : ¬ (⟨xr, xc, xf, xs, xv⟩ : Ch) ∈ l.take k → (Instr.lookup 72 (.map (some (w.heap.size + 1))) (.agg #[.int .i64 xr, .int .i64 xc, .int .i64 xf, .int .i64 xs, .int .i64 xv]) false).run Tryd.prog wx = .ok (.int .i64 0) wx := fun hn => run_lookup_off Tryd.underlying72 ⟨xr, xc, xf, xs, xv⟩ _ _ wx mbx (ones_off hn)
    have LKY : (⟨xr, xc, xf, xs, xv⟩ : Ch) ∈ l.take k → (Instr.lookup 72 (.map (some (w.heap.size + 1))) (.agg #[.int .i64 xr, .int .i64 xc, .int .i64 xf, .int .i64 xs, .int .i64 xv]) false).run Tryd.prog wx = .ok (.int .i64 1) wx := fun hn => run_lookup_ones Tryd.underlying72 ⟨xr, xc, xf, xs, xv⟩ _ _ wx mbx hn
    clear hbx bx bz mbx bkx
    by_cases h0 : xr = r
    rotate_left
    · have R : res = false := NO.out (NRk.out fun h => h0 h.1)
      subst R
      have h0' : (xr == r) = false := by simpa using h0
      clear LKN LKY
      go_wp2_with fail
      go_ret
      exact ⟨rfl, HBX.out⟩
    subst h0
    by_cases h1 : xc = c
    rotate_left
    · have R : res = false := NO.out (NRk.out fun h => h1 h.2)
      subst R
      have h1' : (xc == c) = false := by simpa using h1
      clear LKN LKY
      go_wp2_with fail
      go_ret
      exact ⟨rfl, HBX.out⟩
    subst h1
    by_cases hm : (⟨xr, xc, xf, xs, xv⟩ : Ch) ∈ l.take k
    · have R : res = false := NO.out (NTk.out hm)
      subst R
      have LK := LKY hm
      clear LKN LKY hm
      go_wp2_with fail
      go_ret
      exact ⟨rfl, HBX.out⟩
    have LK := LKN hm
    have HM := hide hm
    have HO2 : Hid (okV xr xc (l.take (k + 1))) := hide (by rw [TSk.out]; exact okV_snoc HO.out ⟨rfl, rfl⟩ hm)
    have HT2 : Hid (ones (l.take (k + 1)) = ones (l.take k) ++ [((⟨xr, xc, xf, xs, xv⟩ : Ch), 1)]) := hide (by rw [TSk.out]; simp [ones])
    have HK : Hid ((ones (l.take k)).length = k) := hide (by rw [ones_len, List.length_take]; omega)
    clear LKN LKY hm
    go_wp2_with fail
    have hmx := HMX.out
    have hsx := HSX.out
    have hmr := HMR.out
    have hoff := ones_off HM.out
    generalize ones (l.take k) = es at *
    let K : World → World → Prop := fun a b => a.grownBy b (some (w.heap.size + 1))
    let R : Nat → Value → World → Prop := fun sl u _ => match sl with
      | 32 => u = .map (some (w.heap.size + 1))
      | 33 => u = .agg #[.int .i64 xr, .int .i64 xc, .int .i64 xf, .int .i64 xs, .int .i64 xv]
      | 34 => u = .int .i64 0
      | 35 => u = .int .i64 1
      | 36 => u = .tuple #[.int .i64 0, .int .i64 es.length]
      | 37 => u = .int .i64 es.length
      | _ => True
    let J : Option Value → World → Prop := fun b w1 => match b with
      | none => MBlk w1 (w.heap.size + 1) es
      | some u => MBlk w1 (w.heap.size + 1) (es ++ [((⟨xr, xc, xf, xs, xv⟩ : Ch), 0)])
    have hKB : ∀ w w', Below w.heap.size w w' → K w w' := fun _ _ hb => grown_of_below hb
    have hJB : ∀ b w w', J b w → Below w.heap.size w w' → J b w' := fun b wa wb hj hb => by
      cases b with
      | none => exact MBlk.below hj hb (MBlk.lt hj)
      | some u => exact MBlk.below hj hb (MBlk.lt hj)
    refine wp_region_relJ 6 36 R K J (by kernel_rfl) (by kernel_rfl) (by kernel_rfl) (by kernel_rfl) (by kernel_rfl) (fun _ _ _ h1 h2 => gtrans h1 h2) (hKB _ _ (Below.refl _ _).drew) (hmx.below (Below.refl _ _).drew hmx.lt) (fun _ _ _ _ h _ => h) ?step ?fin
    case fin =>
      intro ff w9 hk hj hr
      have hj : MBlk w9 (w.heap.size + 1) (es ++ [((⟨xr, xc, xf, xs, xv⟩ : Ch), 0)]) := hj
      have e32 : ff 32 = .map (some (w.heap.size + 1)) := hr 32 (by decide)
      have e35 : ff 35 = .int .i64 1 := hr 35 (by decide)
      have e37 : ff 37 = .int .i64 es.length := hr 37 (by decide)
      rw [HK.out] at e37
      obtain ⟨w10, hes, hm10, hg10⟩ := run_entryStore_new (mt := 72) ⟨xr, xc, xf, xs, xv⟩ (w.heap.size + 1) es w9 hj
      rw [HK.out] at hes
      have HM10 := hide hm10
      have hbk10 := (BKX.out.grown hk (fun e => by injection e with e; omega)).grown hg10 (fun e => by injection e with e; omega)
      have HBK10 := hide hbk10
      have HB10 := hide ((HBX.out.grown hk (Nat.le_of_lt (Nat.lt_of_le_of_lt HB.out.size hsx)) (fun k e => by injection e with e; omega)).grown hg10 (by have := hk.size; have := HB.out.size; omega) (fun k e => by injection e with e; omega))
      clear hk hj hr hm10 hg10 hbk10 hKB hJB hmx hsx hmr hoff y0 y1 y2 y3 y4 p0x p1x LK
      simp only [putAll, slotsOf, List.take, List.drop, List.filterMap_cons, List.filterMap_nil, List.foldl_cons, List.foldl_nil, Act.put, e32, e35, e37]
      simp only [List.setIfInBounds_toArray, List.set_cons_succ, List.set_cons_zero]
      have hl := HL.out
      go_wp2_with fail
      go_roundw
      case rel => exact ⟨k + 1, by omega, by go_num, HO2, hide (by rw [HT2.out]; exact HM10.out), HBK10, HB10⟩
      case measure => simp [intOf]; omega
    case step =>
      intro o ho
      simp only [List.take, List.mem_cons, List.not_mem_nil, or_false] at ho
      rcases ho with rfl | rfl | rfl | rfl | rfl | rfl
      · refine ⟨fun h => absurd h (by decide), fun _ b => stepJ_of hKB hJB fun a w1 hk hj hsm hr => ?_⟩
        have e3 : a.tmps.getD 3 undef = .map (some (w.heap.size + 1)) := hsm 3 (by decide)
        rw [Array.getD_eq_getD_getElem?] at e3
        unfold Oper.wp
        simp only [execOp, Act.eval, Array.getD_eq_getD_getElem?, e3]
        go_simp
        exact ⟨_, rfl, rfl, Below.refl _ _⟩
      · refine ⟨fun h => absurd h (by decide), fun _ b => stepJ_of hKB hJB fun a w1 hk hj hsm hr => ?_⟩
        have e5 : a.tmps.getD 5 undef = .pointer (some ⟨wr.heap.size, 0, none⟩) := hsm 5 (by decide)
        have b9 := BX.out.grown hk (fun e => by injection e with e; omega)
        have y0 : w1.cell? ⟨wr.heap.size, 0, none⟩ = some (.int .i64 xr) := b9.cell 0
        have y1 : w1.cell? ⟨wr.heap.size, 1, none⟩ = some (.int .i64 xc) := b9.cell 1
        have y2 : w1.cell? ⟨wr.heap.size, 2, none⟩ = some (.int .i64 xf) := b9.cell 2
        have y3 : w1.cell? ⟨wr.heap.size, 3, none⟩ = some (.int .i64 xs) := b9.cell 3
        have y4 : w1.cell? ⟨wr.heap.size, 4, none⟩ = some (.int .i64 xv) := b9.cell 4
        rw [Array.getD_eq_getD_getElem?] at e5
        unfold Oper.wp
        simp only [execOp, Act.eval, Array.getD_eq_getD_getElem?, e5]
        go_simp
        exact ⟨_, rfl, rfl, Below.refl _ _⟩
      · refine ⟨fun h => absurd h (by decide), fun _ b => stepJ_of hKB hJB fun a w1 hk hj hsm hr => ?_⟩
        have e32 : a.tmps.getD 32 undef = .map (some (w.heap.size + 1)) := hr 32 (by decide) (by apply Array.mem_toList_iff.1; repeat (first | exact List.Mem.head _ | apply List.Mem.tail))
        have e33 : a.tmps.getD 33 undef = .agg #[.int .i64 xr, .int .i64 xc, .int .i64 xf, .int .i64 xs, .int .i64 xv] := hr 33 (by decide) (by apply Array.mem_toList_iff.1; repeat (first | exact List.Mem.head _ | apply List.Mem.tail))
        have LK1 : (Instr.lookup 72 (.map (some (w.heap.size + 1))) (.agg #[.int .i64 xr, .int .i64 xc, .int .i64 xf, .int .i64 xs, .int .i64 xv]) false).run Tryd.prog w1 = .ok (.int .i64 0) w1 := by
          cases b with
          | none => exact run_lookup_off Tryd.underlying72 ⟨xr, xc, xf, xs, xv⟩ _ _ w1 hj hoff
          | some u => exact run_lookup_on Tryd.underlying72 ⟨xr, xc, xf, xs, xv⟩ 0 _ es [] w1 hj hoff
        rw [Array.getD_eq_getD_getElem?] at e32
        rw [Array.getD_eq_getD_getElem?] at e33
        unfold Oper.wp
        simp only [execOp, Act.eval, Array.getD_eq_getD_getElem?, e32, e33]
        go_simp
        exact ⟨_, rfl, rfl, Below.refl _ _⟩
      · refine ⟨fun h => absurd h (by decide), fun _ b => stepJ_of hKB hJB fun a w1 hk hj hsm hr => ?_⟩
        have e34 : a.tmps.getD 34 undef = .int .i64 0 := hr 34 (by decide) (by apply Array.mem_toList_iff.1; repeat (first | exact List.Mem.head _ | apply List.Mem.tail))
        rw [Array.getD_eq_getD_getElem?] at e34
        unfold Oper.wp
        simp only [execOp, Act.eval, Array.getD_eq_getD_getElem?, e34]
        go_simp
        exact ⟨_, rfl, rfl, Below.refl _ _⟩
      · refine ⟨fun _ a w1 hk hj hsm hr => ?_, fun h => absurd rfl h⟩
        have e32 : a.tmps.getD 32 undef = .map (some (w.heap.size + 1)) := hr 32 (by decide) (by apply Array.mem_toList_iff.1; repeat (first | exact List.Mem.head _ | apply List.Mem.tail))
        have e33 : a.tmps.getD 33 undef = .agg #[.int .i64 xr, .int .i64 xc, .int .i64 xf, .int .i64 xs, .int .i64 xv] := hr 33 (by decide) (by apply Array.mem_toList_iff.1; repeat (first | exact List.Mem.head _ | apply List.Mem.tail))
        obtain ⟨w2, hme, hm2, hg2⟩ := run_mapEntry_new Tryd.underlying72 ⟨xr, xc, xf, xs, xv⟩ (w.heap.size + 1) es w1 hj hoff
        have hme : (Instr.mapEntry 72 (.map (some (w.heap.size + 1))) (.agg #[.int .i64 xr, .int .i64 xc, .int .i64 xf, .int .i64 xs, .int .i64 xv])).run Tryd.prog w1 = .ok (.tuple #[.int .i64 0, .int .i64 es.length]) w2 := hme
        rw [Array.getD_eq_getD_getElem?] at e32 e33
        unfold Oper.wp
        simp only [execOp, Act.eval, Array.getD_eq_getD_getElem?, e32, e33]
        go_simp
        exact ⟨_, rfl, rfl, hg2, hm2⟩
      · refine ⟨fun h => absurd h (by decide), fun _ b => stepJ_of hKB hJB fun a w1 hk hj hsm hr => ?_⟩
        have e36 : a.tmps.getD 36 undef = .tuple #[.int .i64 0, .int .i64 es.length] := hr 36 (by decide) (by apply Array.mem_toList_iff.1; repeat (first | exact List.Mem.head _ | apply List.Mem.tail))
        rw [Array.getD_eq_getD_getElem?] at e36
        unfold Oper.wp
        simp only [execOp, Act.eval, Array.getD_eq_getD_getElem?, e36]
        go_simp
        exact ⟨_, rfl, rfl, Below.refl _ _⟩
end Pth
end Go.Proofs.YtiojpokfcejhcaaDoor
