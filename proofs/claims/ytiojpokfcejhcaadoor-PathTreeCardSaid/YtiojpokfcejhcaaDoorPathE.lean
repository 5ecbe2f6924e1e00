/- How many steps are left: of a level, of the program's stack. -/
import Derived.Test.YtiojpokfcejhcaaDoorRows
import Derived.Test.YtiojpokfcejhcaaDoorPathD
namespace Go.Proofs.YtiojpokfcejhcaaDoor
open Go Go.RowKit
set_option linter.unusedVariables false
set_option linter.unusedSimpArgs false
namespace Pth
theorem lvC_len (x : Lv) : (lvC x).length = 5 := rfl
theorem lvCs_cons (t : Lv) (l : List Lv) : lvCs (t :: l) = lvC t ++ lvCs l := rfl
theorem lvCs_len : ∀ l : List Lv, (lvCs l).length = l.length * 5
  | [] => rfl
  | t :: l => by rw [lvCs_cons, List.length_append, lvCs_len l, lvC_len, List.length_cons]; omega
theorem lvCs_at : ∀ (l : List Lv) (i : Nat) (hi : i < l.length) (j : Nat), j < 5 → (lvCs l)[i * 5 + j]? = (lvC l[i])[j]?
  | t :: l, 0, _, j, hj => by
    rw [lvCs_cons, List.getElem?_append_left (by rw [lvC_len]; omega)]
    simp
  | t :: l, i + 1, hi, j, hj => by
    have e : (i + 1) * 5 + j = (lvC t).length + (i * 5 + j) := by rw [lvC_len]; omega
    rw [lvCs_cons, e, List.getElem?_append_right (by omega), Nat.add_sub_cancel_left]
    exact lvCs_at l i (by simpa using hi) j hj
/-- How many steps a level has. -/
def many (x : Lv) : Nat := x.vs.length + (if x.off then 1 else 0)
/-- A level that stands at one of its steps. -/
def Lv.fit (x : Lv) : Prop := 0 < x.vs.length ∧ x.vs.length ≤ 100 ∧ x.at_ + 1 ≤ many x
def leftN (x : Lv) : Nat := many x - 1 - x.at_
theorem leftN_le {x : Lv} (h : x.fit) : leftN x ≤ 101 := by
  have h1 := h.2.1
  unfold leftN many
  split <;> omega
def leftS : List Lv → Nat
  | [] => 0
  | x :: l => leftN x + leftS l
theorem leftS_app : ∀ (a b : List Lv), leftS (a ++ b) = leftS a + leftS b
  | [], b => by simp [leftS]
  | x :: a, b => by rw [List.cons_append, leftS, leftS, leftS_app a b]; omega
theorem leftS_le : ∀ (l : List Lv), (∀ x ∈ l, x.fit) → leftS l ≤ l.length * 101
  | [], _ => Nat.zero_le _
  | x :: l, h => by
    have h1 := leftN_le (h x List.mem_cons_self)
    have h2 := leftS_le l fun y hy => h y (List.mem_cons_of_mem _ hy)
    rw [leftS, List.length_cons]
    omega
theorem StA.open_ {w : World} {T B : Nat} {ls : List Lv} (h : StA w T B ls) : ∃ A c, Blk w T 54 #[.bool true, .slice A ls.length c] ∧ ∀ i (hi : i < ls.length), ∃ g, A = some ⟨g, 0, none⟩ ∧ B ≤ g ∧ Blk w g 59 (match w.heap[g]? with | some (.cells cs _ _) => cs | _ => #[]) ∧ (∀ k, w.frozen? ⟨g, k, none⟩ = false) ∧ w.cell? ⟨g, i * 5, none⟩ = some (.int .i64 ls[i].r) ∧ w.cell? ⟨g, i * 5 + 1, none⟩ = some (.int .i64 ls[i].c) ∧ w.cell? ⟨g, i * 5 + 2, none⟩ = some (.slice ls[i].A ls[i].vs.length ls[i].cap) ∧ w.cell? ⟨g, i * 5 + 3, none⟩ = some (.bool ls[i].off) ∧ w.cell? ⟨g, i * 5 + 4, none⟩ = some (.int .i64 ls[i].at_) := by
  obtain ⟨v, hb, ho⟩ := h.tab
  obtain ⟨a, c, rfl⟩ := own_form ho
  refine ⟨a, c, hb, fun i hi => ?_⟩
  rcases ho.2 with ⟨_, h0⟩ | ⟨g, cap, cur, hv, hge, hh, hnc, _, hcs, htk⟩
  · omega
  · injection hv with hv
    subst hv
    have hB : Blk w g 59 cur := hh
    refine ⟨g, rfl, hge, by rw [hh]; exact hh, hB.frozen, ?_⟩
    have hc : ∀ j u, j < 5 → (lvC ls[i])[j]? = some u → w.cell? ⟨g, i * 5 + j, none⟩ = some u := fun j u hj hu => by
      have e := lvCs_at ls i hi j hj
      rw [hu, ← htk, List.getElem?_take] at e
      split at e
      · rw [hB.cell]
        simpa using e
      · cases e
    exact ⟨hc 0 _ (by omega) rfl, hc 1 _ (by omega) rfl, hc 2 _ (by omega) rfl, hc 3 _ (by omega) rfl, hc 4 _ (by omega) rfl⟩
set_option maxRecDepth 100000 in
set_option maxHeartbeats 2000000 in
theorem left_a (x : Lv) (w : World) (h : x.fit) :
    Calls Tryd.prog 24 #[.agg #[.int .i64 x.r, .int .i64 x.c, .slice x.A x.vs.length x.cap, .bool x.off, .int .i64 x.at_]] w fun e w' => e = .returned (.int .i64 (leftN x)) ∧ Below w.heap.size w w' := by
  obtain ⟨r, c, A, cap, vs, off, at_⟩ := x
  obtain ⟨h0, h1, h2⟩ := h
  simp only at h0 h1
  have b1 := Blk.new w 59 #[.int .i64 r, .int .i64 c, .slice A vs.length cap, .bool off, .int .i64 at_]
  have hb1 := (Below.refl w.heap.size w).alloc (Nat.le_refl _) (.cells #[.int .i64 r, .int .i64 c, .slice A vs.length cap, .bool off, .int .i64 at_] 59)
  obtain ⟨W1, hW1⟩ : ∃ x, w.alloc (.cells #[.int .i64 r, .int .i64 c, .slice A vs.length cap, .bool off, .int .i64 at_] 59) = x := ⟨_, rfl⟩
  rw [hW1] at b1 hb1
  have q2 : W1.cell? ⟨w.heap.size, 2, none⟩ = some (.slice A vs.length cap) := b1.cell 2
  have q3 : W1.cell? ⟨w.heap.size, 3, none⟩ = some (.bool off) := b1.cell 3
  have q4 : W1.cell? ⟨w.heap.size, 4, none⟩ = some (.int .i64 at_) := b1.cell 4
  have HB := hide hb1
  unfold many at h2
  simp only at h2
  clear b1 hb1
  cases off
  · have E : Hid (leftN ⟨r, c, A, cap, vs, false, at_⟩ = vs.length - at_ - 1) := hide (by simp [leftN, many]; omega)
    have h3 : at_ + 1 ≤ vs.length := by simpa using h2
    clear h2
    go_enter Tryd.func24, Tryd.ntmps24
    go_wp2_with fail
    go_ret
    refine ⟨?_, HB.out⟩
    rw [E.out]
    go_num
  · have E : Hid (leftN ⟨r, c, A, cap, vs, true, at_⟩ = vs.length - at_) := hide (by simp [leftN, many])
    have h3 : at_ ≤ vs.length := by simpa using h2
    clear h2
    go_enter Tryd.func24, Tryd.ntmps24
    go_wp2_with fail
    go_ret
    refine ⟨?_, HB.out⟩
    rw [E.out]
    go_num
set_option maxRecDepth 100000 in
set_option maxHeartbeats 4000000 in
theorem Left_a (T B : Nat) (ls : List Lv) (w : World) (ht : StA w T B ls) (hf : ∀ x ∈ ls, x.fit) :
    Calls Tryd.prog 17 #[.pointer (some ⟨T, 0, none⟩)] w fun e w' => e = .returned (.int .i64 (leftS ls)) ∧ Below w.heap.size w w' := by
  have D := hide (depth_a T B ls w ht)
  have HT := hide ht
  have HF := hide hf
  have HLE := hide ht.le
  clear ht hf
  go_enter Tryd.func17, Tryd.ntmps17
  go_wp2_with fail
  refine D.out.mono ?_
  rintro e w1 ⟨rfl, rfl⟩
  go_wp2_with fail
  go_loopw [3, 7] (fun vn vi wr => ∃ (k : Nat), k ≤ ls.length ∧ vi = .int .i64 k ∧ vn = .int .i64 (leftS (ls.take k)) ∧ Hid (Below w.heap.size w wr)) (fun _ vi _ => ls.length - (intOf vi).toNat)
  case atStart => exact ⟨0, by omega, rfl, rfl, hide (Below.refl _ _)⟩
  case round =>
    obtain ⟨k, hk, rfl, rfl, HB⟩ := hrel
    by_cases hlt : k < ls.length
    · have hltI : (k : Int) < (ls.length : Int) := by omega
      obtain ⟨A, c, hbT, hrow⟩ := (HT.out.below HB.out).open_
      obtain ⟨g, rfl, hge, hbg, hfr, c0, c1, c2, c3, c4⟩ := hrow k hlt
      have u1 : wr.cell? ⟨T, 1, none⟩ = some (.slice (some ⟨g, 0, none⟩) ls.length c) := hbT.cell 1
      have LA := hide (left_a ls[k] wr (HF.out _ (List.getElem_mem hlt)))
      have TS : leftS (ls.take (k + 1)) = leftS (ls.take k) + leftN ls[k] := by
        rw [List.take_succ_eq_append_getElem hlt, leftS_app]
        simp [leftS]
      have h1 := leftN_le (HF.out _ (List.getElem_mem hlt))
      have h2 : leftS (ls.take k) ≤ 202000 := by
        have h3 := leftS_le (ls.take k) fun x hx => HF.out x (List.mem_of_mem_take hx)
        have h4 := HLE.out
        rw [List.length_take] at h3
        omega
      have HTS := hide TS
      have hle := HLE.out
      generalize ls[k] = x at *
      generalize leftS (ls.take k) = s at *
      obtain ⟨r, cc, A', cap, vs, off, at_⟩ := x
      simp only at c0 c1 c2 c3 c4 LA
      generalize leftN ⟨r, cc, A', cap, vs, off, at_⟩ = z at *
      clear hbT hbg hfr hrow TS hge
      go_wp2_with fail
      refine LA.out.mono ?_
      rintro e w2 ⟨rfl, hb2⟩
      have HB2 := hide (HB.out.trans (hb2.mono HB.out.size))
      clear hb2
      go_wp2_with fail
      go_roundw
      case rel => exact ⟨k + 1, by omega, by go_num, by rw [HTS.out]; go_num, HB2⟩
      case measure => simp [intOf]; omega
    · have hk2 : k = ls.length := by omega
      have hltI : ¬ (k : Int) < (ls.length : Int) := by omega
      have E : Hid (leftS (ls.take k) = leftS ls) := hide (by rw [hk2, List.take_length])
      clear hk2
      go_wp2_with fail
      go_ret
      exact ⟨by rw [E.out]; rfl, HB.out⟩
end Pth
end Go.Proofs.YtiojpokfcejhcaaDoor
