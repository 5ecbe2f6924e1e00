/- The leaves of a tree: leaves. -/
import Derived.Test.YtiojpokfcejhcaaDoorRows
import Derived.Test.YtiojpokfcejhcaaDoorPathNo
import Derived.Test.YtiojpokfcejhcaaDoorAppE
import Derived.Test.YtiojpokfcejhcaaDoorRelT
import Derived.Lib.AppendZeros
namespace Go.Proofs.YtiojpokfcejhcaaDoor
open Go Go.RowKit
set_option linter.unusedVariables false
set_option linter.unusedSimpArgs false
namespace Pth
theorem rows_info : (Tryd.prog.info? 30).map (fun i => (i.zero, i.size, i.bytes)) = some (some (.slice none 0 0), 1, 24) := by kernel_rfl
/-- A row of rows of steps. -/
def Lvs (w : World) (B : Nat) (v : Value) (ll : List (List Sp)) : Prop := ∃ vals : List Value, w.ownsRow B 30 1 v ll.length vals ∧ ∀ i (h : i < ll.length), ∃ u, vals[i]? = some u ∧ w.ownsRow 0 49 8 u ll[i].length (spCs ll[i])
theorem Lvs.below {w w' : World} {B : Nat} {v : Value} {ll : List (List Sp)} (h : Lvs w B v ll) (hb : Below w.heap.size w w') : Lvs w' B v ll := by
  obtain ⟨vals, h1, h2⟩ := h
  refine ⟨vals, own_belowR h1 hb, fun i hi => ?_⟩
  obtain ⟨u, h3, h4⟩ := h2 i hi
  exact ⟨u, h3, own_belowR h4 hb⟩
theorem Lvs.more {w : World} {B C : Nat} {v : Value} {ll : List (List Sp)} (h : Lvs w B v ll) (hC : C ≤ B) : Lvs w C v ll := by
  obtain ⟨vals, h1, h2⟩ := h
  exact ⟨vals, own_more h1 hC, h2⟩
theorem Lvs.one {w : World} {B : Nat} {v : Value} {ll : List (List Sp)} {vals : List Value} (h : w.ownsRow B 30 1 v ll.length vals) (h2 : ∀ i (h : i < ll.length), ∃ u, vals[i]? = some u ∧ w.ownsRow 0 49 8 u ll[i].length (spCs ll[i])) : ∀ u ∈ vals, u.oneCell' = true := fun u hu => by
  obtain ⟨i, hi, rfl⟩ := List.getElem_of_mem hu
  have hl : i < ll.length := by have := h.1; omega
  obtain ⟨u', e, ho⟩ := h2 i hl
  rw [List.getElem?_eq_getElem hi] at e
  obtain ⟨a, c, e'⟩ := own_form ho
  rw [Option.some.inj e, e']
  rfl
theorem rows_app {w : World} {B B2 : Nat} {v1 v2 : Value} {l1 l2 : List (List Sp)} (h1 : Lvs w B v1 l1) (h2 : Lvs w B2 v2 l2) (hB : B ≤ w.heap.size) (hn : l1.length + l2.length ≤ 2000) :
    ∃ v' w', (Builtin.append_ #[24, 24] 24 #[v1, v2]).run Tryd.prog w = .ok v' w' ∧ Lvs w' B v' (l1 ++ l2) ∧ w.grownBy w' v1.ownBlock ∧ KeepsBut [30] w w' ∧ Below B w w' := by
  obtain ⟨i0, hi0, hz0, hz1, hz2⟩ := info_parts rows_info
  obtain ⟨x1, o1, e1⟩ := h1
  obtain ⟨x2, o2, e2⟩ := h2
  have hone := Lvs.one o2 e2
  obtain ⟨a2, c2, rfl⟩ := own_form o2
  obtain ⟨v', w', hrun, hown, hg, _⟩ := run_append_any (P := Tryd.prog) w B 24 24 30 i0 _ 1 24 Tryd.underlying24 hi0 hz0 hz1 hz2 (by rfl) (by omega) _ _ _ o1 w.heap.size a2 l2.length c2 x2 (Reads.of_own o2) hone (by unfold maxLen; omega) (by omega) hB
  have kk := grown_keeps o1 hg
  refine ⟨v', w', hrun, ⟨x1 ++ x2, by rw [List.length_append]; exact hown, fun i hi => ?_⟩, hg, kk, (Below.refl B w).grown hg hB fun j e => (own_block o1 e).1⟩
  have hl1 : x1.length = l1.length := by have := o1.1; omega
  by_cases hi1 : i < l1.length
  · obtain ⟨u, h3, h4⟩ := e1 i hi1
    rw [List.getElem_append_left hi1]
    exact ⟨u, by rw [List.getElem?_append_left (by omega)]; exact h3, KeepsBut.own kk h4 (by decide)⟩
  · rw [List.length_append] at hi
    obtain ⟨u, h3, h4⟩ := e2 (i - l1.length) (by omega)
    rw [List.getElem_append_right (by omega)]
    exact ⟨u, by rw [List.getElem?_append_right (by omega), hl1]; exact h3, KeepsBut.own kk h4 (by decide)⟩
theorem box3 (w : World) (t : TypeId) (d0 d1 d2 c0 c1 c2 : Value) :
    Blk ((((w.alloc (.cells #[d0, d1, d2] t)).setCell ⟨w.heap.size, 0, none⟩ c0).setCell ⟨w.heap.size, 1, none⟩ c1).setCell ⟨w.heap.size, 2, none⟩ c2) w.heap.size t #[c0, c1, c2] ∧
    Below w.heap.size w ((((w.alloc (.cells #[d0, d1, d2] t)).setCell ⟨w.heap.size, 0, none⟩ c0).setCell ⟨w.heap.size, 1, none⟩ c1).setCell ⟨w.heap.size, 2, none⟩ c2) :=
  ⟨(((Blk.new w t #[d0, d1, d2]).set_ 0 c0).set_ 1 c1).set_ 2 c2,
   ((((Below.refl _ w).alloc (Nat.le_refl _) _).setCell (p := ⟨w.heap.size, 0, none⟩) (Nat.le_refl _) _).setCell (p := ⟨w.heap.size, 1, none⟩) (Nat.le_refl _) _).setCell (p := ⟨w.heap.size, 2, none⟩) (Nat.le_refl _) _⟩
/-- A step behind a row, in a world with a block for it. -/
theorem app_step (x : Sp) (B n : Nat) (v : Value) (xs : List Value) (w : World) (b : Nat) (hb : Blk w b 49 #[.bool x.off, .int .i64 x.r, .int .i64 x.c, .int .i64 x.ch.r, .int .i64 x.ch.c, .int .i64 x.ch.f, .int .i64 x.ch.s, .int .i64 x.ch.v]) (ho : w.ownsRow B 49 8 v n xs) (hB : B ≤ w.heap.size) (hn : n ≤ 2000) :
    ∃ v' w', (Builtin.append_ #[30, 30] 30 #[v, .slice (some ⟨b, 0, none⟩) 1 1]).run Tryd.prog w = .ok v' w' ∧ w'.ownsRow B 49 8 v' (n + 1) (xs ++ spC x) ∧ Below B w w' := by
  obtain ⟨i0, hi0, hz0, hz1, hz2⟩ := info_parts step_info
  have hrd : Reads w w.heap.size 8 (some ⟨b, 0, none⟩) 1 [.bool x.off, .int .i64 x.r, .int .i64 x.c, .int .i64 x.ch.r, .int .i64 x.ch.c, .int .i64 x.ch.f, .int .i64 x.ch.s, .int .i64 x.ch.v] := ⟨rfl, fun _ => ⟨_, rfl, hb.lt, fun j u hu => by rw [add_lit, hb.cell]; simpa using hu⟩⟩
  obtain ⟨v', w', hrun, hown, hg, _⟩ := run_append_any (P := Tryd.prog) w B 30 30 49 i0 _ 8 64 Tryd.underlying30 hi0 hz0 hz1 hz2 (by rfl) (by omega) _ _ _ ho w.heap.size (some ⟨b, 0, none⟩) 1 1 _ hrd (by intro u hu; simp only [List.mem_cons, List.not_mem_nil, or_false] at hu; rcases hu with rfl | rfl | rfl | rfl | rfl | rfl | rfl | rfl <;> rfl) (by unfold maxLen; omega) (by omega) hB
  exact ⟨v', w', hrun, hown, (Below.refl B w).grown hg hB fun j e => (own_block ho e).1⟩
theorem spC_one : ∀ x : Sp, ∀ u ∈ spC x, u.oneCell' = true := by
  intro x u hu
  simp only [spC, List.mem_cons, List.not_mem_nil, or_false] at hu
  rcases hu with rfl | rfl | rfl | rfl | rfl | rfl | rfl | rfl <;> rfl
theorem spCs_one (l : List Sp) : ∀ u ∈ spCs l, u.oneCell' = true := by
  intro u hu
  obtain ⟨x, _, hu⟩ := List.mem_flatMap.1 hu
  exact spC_one x u hu
/-- A new row with the steps of another one. -/
theorem app_way (w : World) (g lo B : Nat) (hg : Blk w g 49 #[]) (hlo : lo ≤ g) (hb : lo ≤ w.heap.size) (a : Option Addr) (c : Nat) (way : List Sp) (ho : w.ownsRow B 49 8 (.slice a way.length c) way.length (spCs way)) (hn : way.length ≤ 4) :
    ∃ v' w', (Builtin.append_ #[30, 30] 30 #[.slice (some ⟨g, 0, none⟩) 0 0, .slice a way.length c]).run Tryd.prog w = .ok v' w' ∧ w'.ownsRow lo 49 8 v' way.length (spCs way) ∧ Below w.heap.size w w' := by
  obtain ⟨i0, hi0, hz0, hz1, hz2⟩ := info_parts step_info
  exact run_append_empty (P := Tryd.prog) w lo 30 30 49 i0 _ 8 64 Tryd.underlying30 hi0 hz0 hz1 hz2 (by rfl) g hg hlo hb w.heap.size a way.length c _ (Reads.of_own ho) (spCs_one way) (by omega) (by omega)
theorem kids_take {sh : List Int} {way : List Sp} {i : Nat} (hi : i < (nodeN sh way).1) : (kids sh way).take (i + 1) = (kids sh way).take i ++ [kid way.length i] := by
  have hl : i < (kids sh way).length := by rw [kids_len]; omega
  have h : (kids sh way)[i]? = some (kid way.length i) := by
    unfold kids
    rw [List.getElem?_append_left (by simp; exact hi), List.getElem?_map, List.getElem?_range hi]
    rfl
  rw [List.getElem?_eq_getElem hl] at h
  rw [List.take_succ_eq_append_getElem hl, Option.some.inj h]
theorem kids_mem {sh : List Int} {way : List Sp} {i : Nat} (hi : i < (nodeN sh way).1) : kid way.length i ∈ kids sh way := List.mem_append_left _ (List.mem_map.2 ⟨i, List.mem_range.2 hi, rfl⟩)
theorem flat_len {sh : List Int} {way : List Sp} (l : List Sp) (hl : l.length ≤ 4) : (l.flatMap fun s => lf sh (way ++ [s])).length ≤ 1024 := by
  have := flat_le (fun s => lf sh (way ++ [s])) 256 l fun s _ => lf_len sh _
  omega
theorem kids_len4 (sh : List Int) (way : List Sp) : (kids sh way).length ≤ 4 := by
  rw [kids_len]
  have := nodeN_le sh way
  split <;> omega
set_option maxRecDepth 100000 in
set_option maxHeartbeats 8000000 in
theorem leaves_c (A : Option Addr) (cap : Nat) (sh : List Int) (hl : sh.length ≤ 60) : ∀ (f : Nat) (way : List Sp) (vw : Value) (Bw : Nat) (w : World), way.length + f = 4 → SRow w A sh → w.ownsRow Bw 49 8 vw way.length (spCs way) → WOk way →
    Calls Tryd.prog 6 #[.slice A sh.length cap, vw] w fun e w' => ∃ v, e = .returned v ∧ Lvs w' w.heap.size v (lf sh way) ∧ Below w.heap.size w w' := by
  intro f
  induction f with
  | zero =>
    intro way vw Bw w hf hs ho hk
    have ND := hide (node_c A cap sh vw way Bw w hs hl ho hk (by omega))
    have hz : (nodeN sh way).1 = 0 := by
      rcases Nat.eq_zero_or_pos (nodeN sh way).1 with h | h
      · exact h
      · have := nodeN_lt (show (nodeN sh way).1 ≠ 0 by omega)
        omega
    have LF := hide (lf_leaf hz)
    have HO := hide ho
    obtain ⟨av, cv, rfl⟩ := own_form ho
    rw [hz] at ND
    clear hs ho hk hz hf
    go_enter Tryd.func6, Tryd.ntmps6
    go_wp2_with fail
    refine ND.out.mono ?_
    rintro e w1 ⟨rfl, hb1⟩
    have hba := (Below.refl w1.heap.size w1).alloc (Nat.le_refl _) (.cells #[.slice av way.length cv] 30)
    have hbb := Blk.new w1 30 #[.slice av way.length cv]
    have FIN : Hid (Lvs (w1.alloc (.cells #[.slice av way.length cv] 30)) w.heap.size (.slice (some ⟨w1.heap.size, 0, none⟩) 1 1) (lf sh way) ∧ Below w.heap.size w (w1.alloc (.cells #[.slice av way.length cv] 30))) := hide ⟨by
      rw [LF.out]
      refine ⟨[.slice av way.length cv], ⟨rfl, .inr ⟨w1.heap.size, 1, _, rfl, hb1.size, hbb, Nat.le_refl _, by unfold maxLen; omega, rfl, rfl⟩⟩, fun i hi => ?_⟩
      have hi0 : i = 0 := by simp at hi; exact hi
      subst hi0
      exact ⟨_, rfl, own_more (own_belowR (own_belowR HO.out hb1) hba) (Nat.zero_le _)⟩, hb1.trans (hba.mono hb1.size)⟩
    clear hb1 hba hbb ND
    go_wp2_with fail
    go_ret
    exact ⟨_, rfl, FIN.out.1, FIN.out.2⟩
  | succ f ih =>
    intro way vw Bw w hf hs ho hk
    have ND := hide (node_c A cap sh vw way Bw w hs hl ho hk (by omega))
    by_cases hz : (nodeN sh way).1 = 0
    · have LF := hide (lf_leaf hz)
      have HO := hide ho
      obtain ⟨av, cv, rfl⟩ := own_form ho
      rw [hz] at ND
      clear hs ho hk hz hf
      go_enter Tryd.func6, Tryd.ntmps6
      go_wp2_with fail
      refine ND.out.mono ?_
      rintro e w1 ⟨rfl, hb1⟩
      have hba := (Below.refl w1.heap.size w1).alloc (Nat.le_refl _) (.cells #[.slice av way.length cv] 30)
      have hbb := Blk.new w1 30 #[.slice av way.length cv]
      have FIN : Hid (Lvs (w1.alloc (.cells #[.slice av way.length cv] 30)) w.heap.size (.slice (some ⟨w1.heap.size, 0, none⟩) 1 1) (lf sh way) ∧ Below w.heap.size w (w1.alloc (.cells #[.slice av way.length cv] 30))) := hide ⟨by
        rw [LF.out]
        refine ⟨[.slice av way.length cv], ⟨rfl, .inr ⟨w1.heap.size, 1, _, rfl, hb1.size, hbb, Nat.le_refl _, by unfold maxLen; omega, rfl, rfl⟩⟩, fun i hi => ?_⟩
        have hi0 : i = 0 := by simp at hi; exact hi
        subst hi0
        exact ⟨_, rfl, own_more (own_belowR (own_belowR HO.out hb1) hba) (Nat.zero_le _)⟩, hb1.trans (hba.mono hb1.size)⟩
      clear hb1 hba hbb ND
      go_wp2_with fail
      go_ret
      exact ⟨_, rfl, FIN.out.1, FIN.out.2⟩
    · have hm3 := nodeN_le sh way
      have LF := hide (lf_node hz)
      have KT := hide (fun (i : Nat) (hi : i < (nodeN sh way).1) => kids_take (sh := sh) (way := way) hi)
      have KM := hide (fun (i : Nat) (hi : i < (nodeN sh way).1) => kids_ok (kids_mem (sh := sh) (way := way) hi))
      have KO := hide (show (kids sh way).take (nodeN sh way).1 ++ (if (nodeN sh way).2 then [kidOff way.length] else []) = kids sh way by
        unfold kids
        rw [List.take_append_of_le_length (by simp), List.take_of_length_le (by simp)])
      have IH := hide ih
      have HS := hide hs
      have HO := hide ho
      have HK := hide hk
      have HF := hide hf
      have HL := hide hl
      obtain ⟨m, hm⟩ : ∃ x, (nodeN sh way).1 = x := ⟨_, rfl⟩
      obtain ⟨off, hoff⟩ : ∃ x, (nodeN sh way).2 = x := ⟨_, rfl⟩
      rw [hm] at hz hm3 KT KM KO ND
      rw [hoff] at KO ND
      obtain ⟨av, cv, rfl⟩ := own_form ho
      have hzI : ¬ (m : Int) = 0 := by omega
      have hw3 : way.length ≤ 3 := by omega
      clear ih hs ho hk hf hm hoff hl
      go_enter Tryd.func6, Tryd.ntmps6
      go_wp2_with fail
      refine ND.out.mono ?_
      rintro e w1 ⟨rfl, hb1⟩
      have HB1 := hide hb1
      have PT := hide (point_a way.length 0 m w1 (by omega))
      clear hb1 ND
      go_wp2_with fail
      refine PT.out.mono ?_
      rintro e w2 ⟨v2, rfl, ho2, hb2⟩
      obtain ⟨pA, pc, rfl⟩ := own_form ho2
      obtain ⟨bx, hbx⟩ := box3 w2 36 (.int .i64 0) (.int .i64 0) (.slice none 0 0) (.int .i64 way.length) (.int .i64 0) (.slice pA m pc)
      have bz := Blk.new w2 36 #[.int .i64 0, .int .i64 0, .slice none 0 0]
      obtain ⟨wa, hwa⟩ : ∃ x, w2.alloc (.cells #[.int .i64 0, .int .i64 0, .slice none 0 0] 36) = x := ⟨_, rfl⟩
      rw [hwa] at bx hbx bz
      have z0 : wa.cell? ⟨w2.heap.size, 0, none⟩ = some (.int .i64 0) := bz.cell 0
      have z1 : wa.cell? ⟨w2.heap.size, 1, none⟩ = some (.int .i64 0) := bz.cell 1
      have z2 : wa.cell? ⟨w2.heap.size, 2, none⟩ = some (.slice none 0 0) := bz.cell 2
      have f0 := bz.frozen 0
      have f1 := bz.frozen 1
      have f2 := bz.frozen 2
      obtain ⟨w3, hw3'⟩ : ∃ x, ((wa.setCell ⟨w2.heap.size, 0, none⟩ (.int .i64 way.length)).setCell ⟨w2.heap.size, 1, none⟩ (.int .i64 0)).setCell ⟨w2.heap.size, 2, none⟩ (.slice pA m pc) = x := ⟨_, rfl⟩
      rw [hw3'] at bx hbx
      have hb23 := hb2.trans (hbx.mono hb2.size)
      have HP3 := hide (own_belowR ho2 hbx)
      have HB3 := hide (HB1.out.trans (hb23.mono HB1.out.size))
      have BX := hide bx
      have HW1 := hide HB1.out.size
      clear ho2 hb2 bx hbx bz hb23 PT
      go_wp2_with fail
      clear hwa hw3' z0 z1 z2 f0 f1 f2
      go_loopw [7, 9] (fun vo vi wr => ∃ (i : Nat), i ≤ m ∧ vi = .int .i64 i ∧ Hid (Lvs wr w.heap.size vo (((kids sh way).take i).flatMap fun s => lf sh (way ++ [s]))) ∧ Hid (Blk wr w2.heap.size 36 #[.int .i64 way.length, .int .i64 0, .slice pA m pc]) ∧ Hid (wr.ownsRow w1.heap.size 47 5 (.slice pA m pc) m (chs (mk way.length 0 m))) ∧ Hid (Below w.heap.size w wr)) (fun _ vi _ => m - (intOf vi).toNat)
      case atStart => exact ⟨0, by omega, rfl, hide ⟨[], ⟨rfl, .inl ⟨rfl, rfl⟩⟩, fun i hi => absurd hi (by simp)⟩, BX, HP3, HB3⟩
      case round =>
        clear BX HP3 HB3
        obtain ⟨i, hi, rfl, HV, HX, HP, HB⟩ := hrel
        by_cases hlt : i < m
        rotate_left
        · have hltI : ¬ (i : Int) < (m : Int) := by omega
          obtain rfl : i = m := by omega
          have HVE := HV.out
          cases off with
          | false =>
            have e : ((kids sh way).take i).flatMap (fun s => lf sh (way ++ [s])) = lf sh way := by
              have := KO.out
              simp at this
              rw [LF.out]
              conv => rhs; rw [← this]
            rw [e] at HVE
            have HVE := hide HVE
            clear e
            go_wp2_with fail
            go_ret
            exact ⟨_, rfl, HVE.out, HB.out⟩
          | true =>
            have ba := (Below.refl wr.heap.size wr).alloc (Nat.le_refl _) (.cells #[] 49)
            have kg := Blk.new wr 49 #[]
            obtain ⟨wg, hwg⟩ : ∃ x, wr.alloc (.cells #[] 49) = x := ⟨_, rfl⟩
            rw [hwg] at ba kg
            obtain ⟨v33, w33, hr33, ho33, hb33⟩ := app_way wg wr.heap.size wr.heap.size Bw kg (Nat.le_refl _) ba.size av cv way (own_belowR (own_belowR HO.out HB.out) ba) (by omega)
            have hb33' := ba.trans (hb33.mono ba.size)
            have bb := (Below.refl w33.heap.size w33).alloc (Nat.le_refl _) (.cells #[.bool true, .int .i64 way.length, .int .i64 0, .int .i64 0, .int .i64 0, .int .i64 0, .int .i64 0, .int .i64 0] 49)
            have kb := Blk.new w33 49 #[.bool true, .int .i64 way.length, .int .i64 0, .int .i64 0, .int .i64 0, .int .i64 0, .int .i64 0, .int .i64 0]
            obtain ⟨wq, hwq⟩ : ∃ x, w33.alloc (.cells #[.bool true, .int .i64 way.length, .int .i64 0, .int .i64 0, .int .i64 0, .int .i64 0, .int .i64 0, .int .i64 0] 49) = x := ⟨_, rfl⟩
            rw [hwq] at bb kb
            have hbq := hb33'.trans (bb.mono hb33'.size)
            obtain ⟨v11, w11, hrun, hown, hbw⟩ := app_step (kidOff way.length) wr.heap.size way.length v33 _ wq w33.heap.size kb (own_belowR ho33 bb) hbq.size (by omega)
            have hb11 := hbq.trans hbw
            have HV11 := hide (HV.out.below hb11)
            have HB11 := hide (HB.out.trans (hb11.mono HB.out.size))
            have LV := hide (IH.out (way ++ [kidOff way.length]) v11 wr.heap.size w11 (by rw [List.length_append, List.length_singleton]; have := HF.out; omega) (HS.out.below HB11.out) (by rw [List.length_append, List.length_singleton, spCs_app]; simpa [spCs] using hown) (HK.out.app ⟨Int.le_refl 0, by show (0 : Int) ≤ 2; omega⟩))
            clear ba kg hb33 hb33' bb kb hbq hown hbw hb11 ho33 HVE
            go_wp2_with (at_builtin; first | refine Lib.wpList_append_run _ rfl (.tmp 50) (.tmp 51) _ _ rfl _ _ rfl rfl _ w33 hr33 ?_ | refine Lib.wpList_append_run _ rfl (.tmp 52) (.tmp 56) _ _ rfl _ _ rfl rfl _ w11 hrun ?_)
            clear hr33 hrun
            refine LV.out.mono ?_
            rintro e wb ⟨vb, rfl, hlv, hbb⟩
            have hBb := HB11.out.trans (hbb.mono HB11.out.size)
            have hlen1 := flat_len (sh := sh) (way := way) ((kids sh way).take i) (by rw [List.length_take]; have := kids_len4 sh way; omega)
            have hlen2 := lf_len sh (way ++ [kidOff way.length])
            obtain ⟨vz, wz, hrz, hlz, hgz, hkz, hbz⟩ := rows_app (HV11.out.below hbb) hlv hBb.size (by omega)
            have HVz : Hid (Lvs wz w.heap.size vz (lf sh way)) := hide (by
              have e := KO.out
              rw [LF.out, ← e, List.flatMap_append]
              simpa using hlz)
            have HBz := hide (hBb.trans hbz)
            clear hlv hbb hBb hlen1 hlen2 hlz hgz hkz hbz
            go_wp2_with (at_builtin; refine Lib.wpList_append_run _ rfl (.tmp 58) (.tmp 61) _ _ rfl _ _ rfl rfl _ wz hrz ?_)
            go_ret
            exact ⟨_, rfl, HVz.out, HBz.out⟩
        have hltI : (i : Int) < (m : Int) := by omega
        have hX2 : wr.cell? ⟨w2.heap.size, 2, none⟩ = some (.slice pA m pc) := HX.out.cell 2
        obtain ⟨gp, rfl, _, _, _, _, _, hcp⟩ := own_cell HP.out (by omega)
        have hml : i < (mk way.length 0 m).length := by rw [mk_len]; exact hlt
        have hmi : (mk way.length 0 m)[i] = ⟨way.length, 0, i, 0, 0⟩ := by simp [mk]
        have ck : ∀ j u, j < 5 → (chC ⟨way.length, 0, i, 0, 0⟩)[j]? = some u → wr.cell? ⟨gp, i * 5 + j, none⟩ = some u := fun j u hj hu => hcp _ _ (by rw [chs_at _ _ hml j hj, hmi]; exact hu)
        have k0 : wr.cell? ⟨gp, i * 5, none⟩ = some (.int .i64 way.length) := ck 0 _ (by omega) rfl
        have k1 : wr.cell? ⟨gp, i * 5 + 1, none⟩ = some (.int .i64 0) := ck 1 _ (by omega) rfl
        have k2 : wr.cell? ⟨gp, i * 5 + 2, none⟩ = some (.int .i64 i) := ck 2 _ (by omega) rfl
        have k3 : wr.cell? ⟨gp, i * 5 + 3, none⟩ = some (.int .i64 0) := ck 3 _ (by omega) rfl
        have k4 : wr.cell? ⟨gp, i * 5 + 4, none⟩ = some (.int .i64 0) := ck 4 _ (by omega) rfl
        clear ck hcp hml hmi
        go_wp2_with fail
        let R : Nat → Value → World → Prop := fun sl u wx => match sl with
          | 31 => ∃ g, u = .slice (some ⟨g, 0, none⟩) 0 0 ∧ wr.heap.size ≤ g ∧ Blk wx g 49 #[]
          | 32 | 34 => u = .slice av way.length cv
          | 33 => wx.ownsRow wr.heap.size 49 8 u way.length (spCs way)
          | 35 => u = .int .i64 way.length
          | 36 => u = .pointer (some ⟨w2.heap.size, 2, none⟩)
          | 37 => u = .slice (some ⟨gp, 0, none⟩) m pc
          | 38 => u = .int .i64 i
          | 39 => u = .pointer (some ⟨gp, i * 5, none⟩)
          | 40 => u = .agg #[.int .i64 way.length, .int .i64 0, .int .i64 i, .int .i64 0, .int .i64 0]
          | 41 => u = .agg #[.bool false, .int .i64 way.length, .int .i64 0, .int .i64 way.length, .int .i64 0, .int .i64 i, .int .i64 0, .int .i64 0]
          | 42 => ∃ b, u = .slice (some ⟨b, 0, none⟩) 1 1 ∧ Blk wx b 49 #[.bool false, .int .i64 way.length, .int .i64 0, .int .i64 way.length, .int .i64 0, .int .i64 i, .int .i64 0, .int .i64 0]
          | _ => True
        refine wp_region_relT 12 R (by kernel_rfl) (by kernel_rfl) (by kernel_rfl) (by kernel_rfl) ?mono ?step ?fin
        case mono =>
          intro sl u wx wy h hb
          match sl with
          | 31 =>
            obtain ⟨g, h1, h2, h3⟩ := h
            exact ⟨g, h1, h2, h3.below hb h3.lt⟩
          | 33 => exact own_belowR h hb
          | 42 =>
            obtain ⟨b, h1, h3⟩ := h
            exact ⟨b, h1, h3.below hb h3.lt⟩
          | 0 | 1 | 2 | 3 | 4 | 5 | 6 | 7 | 8 | 9 | 10 | 11 | 12 | 13 | 14 | 15 | 16 | 17 | 18 | 19 | 20 | 21 | 22 | 23 | 24 | 25 | 26 | 27 | 28 | 29 | 30 | 32 | 34 | 35 | 36 | 37 | 38 | 39 | 40 | 41 | _ + 43 => exact h
        case step =>
          intro o ho
          simp only [List.take, List.mem_cons, List.not_mem_nil, or_false] at ho
          rcases ho with rfl | rfl | rfl | rfl | rfl | rfl | rfl | rfl | rfl | rfl | rfl | rfl
          · intro a w1 hb hs hr
            unfold Oper.wp
            simp only [execOp, Act.eval, Array.getD_eq_getD_getElem?]
            go_simp
            exact ⟨_, rfl, ⟨w1.heap.size, rfl, hb.size, Blk.new w1 49 #[]⟩, (Below.refl _ _).alloc (Nat.le_refl _) _⟩
          · intro a w1 hb hs hr
            have e1 : a.tmps.getD 1 undef = .slice av way.length cv := hs 1 (by decide)
            rw [Array.getD_eq_getD_getElem?] at e1
            unfold Oper.wp
            simp only [execOp, Act.eval, Array.getD_eq_getD_getElem?, e1]
            go_simp
            exact ⟨_, rfl, rfl, Below.refl _ _⟩
          · intro a w1 hb hs hr
            have e31 : ∃ g, a.tmps.getD 31 undef = .slice (some ⟨g, 0, none⟩) 0 0 ∧ wr.heap.size ≤ g ∧ Blk w1 g 49 #[] := hr 31 (by decide) (by apply Array.mem_toList_iff.1; repeat (first | exact List.Mem.head _ | apply List.Mem.tail))
            have e32 : a.tmps.getD 32 undef = .slice av way.length cv := hr 32 (by decide) (by apply Array.mem_toList_iff.1; repeat (first | exact List.Mem.head _ | apply List.Mem.tail))
            obtain ⟨g, e31', hg, hbg⟩ := e31
            obtain ⟨v', w'', hrun, hown, hbw⟩ := app_way w1 g wr.heap.size Bw hbg hg hb.size av cv way (own_belowR (own_belowR HO.out HB.out) hb) (by omega)
            exact Lib.wp_append_run w1 (.tmp 31) (.tmp 32) 30 30 rfl _ _ e31' e32 v' w'' hrun ⟨v', rfl, fun t ht => by cases ht; exact hown, hbw⟩
          · intro a w1 hb hs hr
            have e1 : a.tmps.getD 1 undef = .slice av way.length cv := hs 1 (by decide)
            rw [Array.getD_eq_getD_getElem?] at e1
            unfold Oper.wp
            simp only [execOp, Act.eval, Array.getD_eq_getD_getElem?, e1]
            go_simp
            exact ⟨_, rfl, rfl, Below.refl _ _⟩
          · intro a w1 hb hs hr
            have e34 : a.tmps.getD 34 undef = .slice av way.length cv := hr 34 (by decide) (by apply Array.mem_toList_iff.1; repeat (first | exact List.Mem.head _ | apply List.Mem.tail))
            rw [Array.getD_eq_getD_getElem?] at e34
            unfold Oper.wp
            simp only [execOp, Act.eval, Array.getD_eq_getD_getElem?, e34]
            go_simp
            exact ⟨_, rfl, rfl, Below.refl _ _⟩
          · intro a w1 hb hs hr
            have e8 : a.tmps.getD 8 undef = .pointer (some ⟨w2.heap.size, 0, none⟩) := hs 8 (by decide)
            rw [Array.getD_eq_getD_getElem?] at e8
            unfold Oper.wp
            simp only [execOp, Act.eval, Array.getD_eq_getD_getElem?, e8]
            go_simp
            exact ⟨_, rfl, rfl, Below.refl _ _⟩
          · intro a w1 hb hs hr
            have e36 : a.tmps.getD 36 undef = .pointer (some ⟨w2.heap.size, 2, none⟩) := hr 36 (by decide) (by apply Array.mem_toList_iff.1; repeat (first | exact List.Mem.head _ | apply List.Mem.tail))
            have cc := (hb.cell (p := ⟨w2.heap.size, 2, none⟩) HX.out.lt).trans hX2
            rw [Array.getD_eq_getD_getElem?] at e36
            unfold Oper.wp
            simp only [execOp, Act.eval, Array.getD_eq_getD_getElem?, e36]
            go_simp
            exact ⟨_, rfl, rfl, Below.refl _ _⟩
          · intro a w1 hb hs hr
            have e9 : a.tmps.getD 9 undef = .int .i64 i := hs 9 (by decide)
            rw [Array.getD_eq_getD_getElem?] at e9
            unfold Oper.wp
            simp only [execOp, Act.eval, Array.getD_eq_getD_getElem?, e9]
            go_simp
            exact ⟨_, rfl, rfl, Below.refl _ _⟩
          · intro a w1 hb hs hr
            have e37 : a.tmps.getD 37 undef = .slice (some ⟨gp, 0, none⟩) m pc := hr 37 (by decide) (by apply Array.mem_toList_iff.1; repeat (first | exact List.Mem.head _ | apply List.Mem.tail))
            have e38 : a.tmps.getD 38 undef = .int .i64 i := hr 38 (by decide) (by apply Array.mem_toList_iff.1; repeat (first | exact List.Mem.head _ | apply List.Mem.tail))
            rw [Array.getD_eq_getD_getElem?] at e37
            rw [Array.getD_eq_getD_getElem?] at e38
            unfold Oper.wp
            simp only [execOp, Act.eval, Array.getD_eq_getD_getElem?, e37, e38]
            go_simp
            exact ⟨_, rfl, rfl, Below.refl _ _⟩
          · intro a w1 hb hs hr
            have e39 : a.tmps.getD 39 undef = .pointer (some ⟨gp, i * 5, none⟩) := hr 39 (by decide) (by apply Array.mem_toList_iff.1; repeat (first | exact List.Mem.head _ | apply List.Mem.tail))
            have q0 := (hb.cell (p := ⟨_, _, none⟩) (block_lt_of_cell k0)).trans k0
            have q1 := (hb.cell (p := ⟨_, _, none⟩) (block_lt_of_cell k1)).trans k1
            have q2 := (hb.cell (p := ⟨_, _, none⟩) (block_lt_of_cell k2)).trans k2
            have q3 := (hb.cell (p := ⟨_, _, none⟩) (block_lt_of_cell k3)).trans k3
            have q4 := (hb.cell (p := ⟨_, _, none⟩) (block_lt_of_cell k4)).trans k4
            rw [Array.getD_eq_getD_getElem?] at e39
            unfold Oper.wp
            simp only [execOp, Act.eval, Array.getD_eq_getD_getElem?, e39]
            go_simp
            exact ⟨_, rfl, rfl, Below.refl _ _⟩
          · intro a w1 hb hs hr
            have e35 : a.tmps.getD 35 undef = .int .i64 way.length := hr 35 (by decide) (by apply Array.mem_toList_iff.1; repeat (first | exact List.Mem.head _ | apply List.Mem.tail))
            have e40 : a.tmps.getD 40 undef = .agg #[.int .i64 way.length, .int .i64 0, .int .i64 i, .int .i64 0, .int .i64 0] := hr 40 (by decide) (by apply Array.mem_toList_iff.1; repeat (first | exact List.Mem.head _ | apply List.Mem.tail))
            rw [Array.getD_eq_getD_getElem?] at e35
            rw [Array.getD_eq_getD_getElem?] at e40
            unfold Oper.wp
            simp only [execOp, Act.eval, Array.getD_eq_getD_getElem?, e35, e40]
            go_simp
            exact ⟨_, rfl, rfl, Below.refl _ _⟩
          · intro a w1 hb hs hr
            have e41 : a.tmps.getD 41 undef = .agg #[.bool false, .int .i64 way.length, .int .i64 0, .int .i64 way.length, .int .i64 0, .int .i64 i, .int .i64 0, .int .i64 0] := hr 41 (by decide) (by apply Array.mem_toList_iff.1; repeat (first | exact List.Mem.head _ | apply List.Mem.tail))
            rw [Array.getD_eq_getD_getElem?] at e41
            unfold Oper.wp
            simp only [execOp, Act.eval, Array.getD_eq_getD_getElem?, e41]
            go_simp
            exact ⟨_, rfl, ⟨w1.heap.size, rfl, Blk.new w1 49 _⟩, (Below.refl _ _).alloc (Nat.le_refl _) _⟩
        case fin =>
          intro ff w9 hb hr
          have o33 : w9.ownsRow wr.heap.size 49 8 (ff 33) way.length (spCs way) := hr 33 (by decide)
          obtain ⟨b, e42, hbb⟩ := hr 42 (by decide)
          obtain ⟨v11, w11, hrun, hown, hbw⟩ := app_step (kid way.length i) wr.heap.size way.length (ff 33) _ w9 b hbb o33 hb.size (by omega)
          have hb11 := hb.trans hbw
          have e33 : ∃ x, ff 33 = x := ⟨_, rfl⟩
          obtain ⟨x33, e33⟩ := e33
          rw [e33] at hrun
          have HV11 := hide (HV.out.below hb11)
          have HX11 := hide (HX.out.below hb11 HX.out.lt)
          have HP11 := hide (own_belowR HP.out hb11)
          have HB11 := hide (HB.out.trans (hb11.mono HB.out.size))
          have LV := hide (IH.out (way ++ [kid way.length i]) v11 wr.heap.size w11 (by rw [List.length_append, List.length_singleton]; have := HF.out; omega) (HS.out.below HB11.out) (by rw [List.length_append, List.length_singleton, spCs_app]; simpa [spCs] using hown) (HK.out.app (KM.out i hlt)))
          clear hb hr o33 hbb hown hbw hb11
          simp only [putAll, slotsOf, List.take, List.drop, List.filterMap_cons, List.filterMap_nil, List.foldl_cons, List.foldl_nil, Act.put, e33, e42]
          simp only [List.setIfInBounds_toArray, List.set_cons_succ, List.set_cons_zero]
          go_wp2_with (at_builtin; refine Lib.wpList_append_run _ rfl (.tmp 33) (.tmp 42) _ _ rfl _ _ rfl rfl _ w11 hrun ?_)
          clear hrun k0 k1 k2 k3 k4 hX2
          refine LV.out.mono ?_
          rintro e wb ⟨vb, rfl, hlv, hbb⟩
          have hBb := HB11.out.trans (hbb.mono HB11.out.size)
          have hlen1 := flat_len (sh := sh) (way := way) ((kids sh way).take i) (by rw [List.length_take]; have := kids_len4 sh way; omega)
          have hlen2 := lf_len sh (way ++ [kid way.length i])
          obtain ⟨vz, wz, hrz, hlz, hgz, hkz, hbz⟩ := rows_app (HV11.out.below hbb) hlv hBb.size (by omega)
          have HVz : Hid (Lvs wz w.heap.size vz (((kids sh way).take (i + 1)).flatMap fun s => lf sh (way ++ [s]))) := hide (by rw [KT.out i hlt, List.flatMap_append]; simpa using hlz)
          have HXz := hide (KeepsBut.blk hkz (HX11.out.below hbb HX11.out.lt) (by decide))
          have HPz := hide (KeepsBut.own hkz (own_belowR HP11.out hbb) (by decide))
          have HBz := hide (hBb.trans hbz)
          clear hlv hbb hBb hlen1 hlen2 hlz hgz hkz hbz
          go_wp2_with (at_builtin; refine Lib.wpList_append_run _ rfl (.tmp 44) (.tmp 47) _ _ rfl _ _ rfl rfl _ wz hrz ?_)
          go_roundw
          case rel => exact ⟨i + 1, by omega, by go_num, HVz, HXz, HPz, HBz⟩
          case measure => simp [intOf]; omega
end Pth
end Go.Proofs.YtiojpokfcejhcaaDoor
