/- The first message of a channel. -/
import Derived.Test.YtonmojinijpneaaRows
import Derived.Test.YtonmojinijpneaaQuC
import Derived.Deep.CutRange
namespace Go.Proofs.Ytonmojinijpneaa
open Go Go.RowKit Go.Lib
set_option linter.unusedVariables false
set_option linter.unusedSimpArgs false
namespace Qu
theorem QSt.item {w : World} {q : Nat} {L : QL} {l : List Msg} (h : QSt w q L l) {c : Chan} {x : CRow} (hx : (c, x) ∈ L.cl) {i : Nat} {m : Msg} (hm : (rowsOf l c)[i]? = some m) : ∀ k v, (msgC m)[k]? = some v → w.cell? ⟨x.g, i * 8 + k, none⟩ = some v := fun k v hv => by
  have hk : k < 8 := by have := (List.getElem?_eq_some_iff.1 hv).1; rwa [msgC_len] at this
  have hi : i < (rowsOf l c).length := (List.getElem?_eq_some_iff.1 hm).1
  obtain ⟨g, hA, _, _, _, _, _, hc⟩ := own_cell (h.crow _ hx) (Nat.lt_of_le_of_lt (Nat.zero_le i) hi)
  cases hA
  exact hc _ v ((msgCs_at _ i m hm k hk).trans hv)
theorem find_at {r : List Msg} {j : Nat} {m : Msg} {p : Msg → Bool} (h1 : ∀ x ∈ r.take j, p x = false) (h2 : r[j]? = some m) (h3 : p m = true) : r.find? p = some m := by
  conv => lhs; rw [cut_at h2]
  rw [List.find?_append, List.find?_eq_none.2 (fun x hx => by rw [h1 x hx]; decide)]
  simp [h3]
theorem put8 {w : World} {X : Nat} {t : TypeId} {a0 a1 a2 a3 a4 a5 a6 a7 : Value} (h : Blk w X t #[a0, a1, a2, a3, a4, a5, a6, a7]) (v0 v1 v2 v3 v4 v5 v6 v7 : Value) : Blk ((((((((w.setCell ⟨X, 0, none⟩ v0).setCell ⟨X, 1, none⟩ v1).setCell ⟨X, 2, none⟩ v2).setCell ⟨X, 3, none⟩ v3).setCell ⟨X, 4, none⟩ v4).setCell ⟨X, 5, none⟩ v5).setCell ⟨X, 6, none⟩ v6).setCell ⟨X, 7, none⟩ v7) X t #[v0, v1, v2, v3, v4, v5, v6, v7] := by
  have h1 := ((((((((h.set_ 0 v0).set_ 1 v1).set_ 2 v2).set_ 3 v3).set_ 4 v4).set_ 5 v5).set_ 6 v6).set_ 7 v7)
  simpa only [List.setIfInBounds_toArray, List.set_cons_zero, List.set_cons_succ] using h1
theorem bel8 {w0 w : World} {X : Nat} (h : Below X w0 w) (v0 v1 v2 v3 v4 v5 v6 v7 : Value) : Below X w0 ((((((((w.setCell ⟨X, 0, none⟩ v0).setCell ⟨X, 1, none⟩ v1).setCell ⟨X, 2, none⟩ v2).setCell ⟨X, 3, none⟩ v3).setCell ⟨X, 4, none⟩ v4).setCell ⟨X, 5, none⟩ v5).setCell ⟨X, 6, none⟩ v6).setCell ⟨X, 7, none⟩ v7) :=
  ((((((((h.setCell (p := ⟨X, 0, none⟩) (Nat.le_refl _) v0).setCell (p := ⟨X, 1, none⟩) (Nat.le_refl _) v1).setCell (p := ⟨X, 2, none⟩) (Nat.le_refl _) v2).setCell (p := ⟨X, 3, none⟩) (Nat.le_refl _) v3).setCell (p := ⟨X, 4, none⟩) (Nat.le_refl _) v4).setCell (p := ⟨X, 5, none⟩) (Nat.le_refl _) v5).setCell (p := ⟨X, 6, none⟩) (Nat.le_refl _) v6).setCell (p := ⟨X, 7, none⟩) (Nat.le_refl _) v7)
/-- What First tells. -/
def tellV (r : Option Msg) : Value := .tuple #[.agg #[.string (r.getD m0).key, .int .i64 (r.getD m0).fr, .int .i64 (r.getD m0).to, .int .i64 (r.getD m0).ca, .int .i64 (r.getD m0).tg, .int .i64 (r.getD m0).va, .int .i64 (r.getD m0).sz, .bool (r.getD m0).tk], .bool r.isSome]
set_option maxRecDepth 100000 in
set_option maxHeartbeats 16000000 in
theorem First_c {w : World} {q : Nat} {L : QL} {l : List Msg} (h : QSt w q L l) (c : Chan) (tag : Int) (hl : l.length ≤ 1000) :
    Calls Try.prog 79 #[.pointer (some ⟨q, 0, none⟩), .string c.key, .int .i64 c.fr, .int .i64 c.to, .int .i64 tag] w fun e w' => e = .returned (tellV (firstL l c tag)) ∧ Below w.heap.size w w' := by
  have b1 := (Below.refl w.heap.size w).alloc (Nat.le_refl _) (.cells #[.string ⟨#[]⟩, .int .i64 0, .int .i64 0, .int .i64 0, .int .i64 0, .int .i64 0, .int .i64 0, .bool false] 33)
  have kx := Blk.new w 33 #[.string ⟨#[]⟩, .int .i64 0, .int .i64 0, .int .i64 0, .int .i64 0, .int .i64 0, .int .i64 0, .bool false]
  have q1 := h.below b1
  go_enter Try.func79, Try.ntmps79
  go_upto_region 1 with (fail)
  obtain ⟨w1, hw1⟩ : ∃ z, w.alloc (.cells #[.string ⟨#[]⟩, .int .i64 0, .int .i64 0, .int .i64 0, .int .i64 0, .int .i64 0, .int .i64 0, .bool false] 33) = z := ⟨_, rfl⟩
  rw [hw1] at b1 kx q1 ⊢
  obtain ⟨X, hX⟩ : ∃ X, w.heap.size = X := ⟨_, rfl⟩
  rw [hX] at b1 kx ⊢
  have HQ1 := hide q1
  have KX := hide kx
  have HB1 := hide b1
  have HX := hide hX
  have MC := hide (made_c q1)
  have c0 : w1.cell? ⟨q, 0, none⟩ = some (.map (some L.cm)) := q1.blk.cell 0
  have lk := SMap.run_lookup keyChan Try.underlying89 zero_row c L.cm _ w1 q1.mc
  unfold chV at lk
  clear b1 kx q1 hw1 hX h
  go_wp2_with fail
  refine MC.out.mono ?_
  rintro e w1b ⟨rfl, hw1b⟩
  obtain rfl : w1 = w1b := hw1b
  by_cases hr : rowsOf l c = []
  · rw [HQ1.out.norow hr] at lk
    simp only [Option.getD_none] at lk
    have FN : Hid (firstL l c tag = none) := hide (by rw [← first_row, hr]; rfl)
    clear hr
    go_wp2_with fail
    have bz := (Below.refl w1.heap.size w1).alloc (Nat.le_refl _) (.cells #[.slice none 0 0, .int .i64 0] 103)
    obtain ⟨w2, hw2⟩ : ∃ z, w1.alloc (.cells #[.slice none 0 0, .int .i64 0] 103) = z := ⟨_, rfl⟩
    rw [hw2] at bz ⊢
    have KX2 := hide (KX.out.below bz KX.out.lt)
    have HB2 := hide (HB1.out.trans (bz.mono (Nat.le_of_lt KX.out.lt)))
    clear bz hw2 lk c0 MC
    go_loopw [14, 34] (fun _ v34 wr => v34 = .int .i64 0 ∧ wr = w2) (fun _ _ _ => 0)
    case atStart => exact ⟨rfl, rfl⟩
    case round =>
      obtain ⟨rfl, hwr⟩ := hrel
      rename World => wr
      subst hwr
      have z0 : wr.cell? ⟨X, 0, none⟩ = some (.string ⟨#[]⟩) := KX2.out.cell 0
      have z1 : wr.cell? ⟨X, 1, none⟩ = some (.int .i64 0) := KX2.out.cell 1
      have z2 : wr.cell? ⟨X, 2, none⟩ = some (.int .i64 0) := KX2.out.cell 2
      have z3 : wr.cell? ⟨X, 3, none⟩ = some (.int .i64 0) := KX2.out.cell 3
      have z4 : wr.cell? ⟨X, 4, none⟩ = some (.int .i64 0) := KX2.out.cell 4
      have z5 : wr.cell? ⟨X, 5, none⟩ = some (.int .i64 0) := KX2.out.cell 5
      have z6 : wr.cell? ⟨X, 6, none⟩ = some (.int .i64 0) := KX2.out.cell 6
      have z7 : wr.cell? ⟨X, 7, none⟩ = some (.bool false) := KX2.out.cell 7
      have f0 := KX2.out.frozen 0
      have f1 := KX2.out.frozen 1
      have f2 := KX2.out.frozen 2
      have f3 := KX2.out.frozen 3
      have f4 := KX2.out.frozen 4
      have f5 := KX2.out.frozen 5
      have f6 := KX2.out.frozen 6
      have f7 := KX2.out.frozen 7
      have k9 := put8 (KX2.out) (.string ⟨#[]⟩) (.int .i64 0) (.int .i64 0) (.int .i64 0) (.int .i64 0) (.int .i64 0) (.int .i64 0) (.bool false)
      have b9 := bel8 (HB2.out) (.string ⟨#[]⟩) (.int .i64 0) (.int .i64 0) (.int .i64 0) (.int .i64 0) (.int .i64 0) (.int .i64 0) (.bool false)
      obtain ⟨w9, hw9⟩ : ∃ z, ((((((((wr.setCell ⟨X, 0, none⟩ (.string ⟨#[]⟩)).setCell ⟨X, 1, none⟩ (.int .i64 0)).setCell ⟨X, 2, none⟩ (.int .i64 0)).setCell ⟨X, 3, none⟩ (.int .i64 0)).setCell ⟨X, 4, none⟩ (.int .i64 0)).setCell ⟨X, 5, none⟩ (.int .i64 0)).setCell ⟨X, 6, none⟩ (.int .i64 0)).setCell ⟨X, 7, none⟩ (.bool false)) = z := ⟨_, rfl⟩
      rw [hw9] at k9 b9
      have u0 : w9.cell? ⟨X, 0, none⟩ = some (.string ⟨#[]⟩) := k9.cell 0
      have u1 : w9.cell? ⟨X, 1, none⟩ = some (.int .i64 0) := k9.cell 1
      have u2 : w9.cell? ⟨X, 2, none⟩ = some (.int .i64 0) := k9.cell 2
      have u3 : w9.cell? ⟨X, 3, none⟩ = some (.int .i64 0) := k9.cell 3
      have u4 : w9.cell? ⟨X, 4, none⟩ = some (.int .i64 0) := k9.cell 4
      have u5 : w9.cell? ⟨X, 5, none⟩ = some (.int .i64 0) := k9.cell 5
      have u6 : w9.cell? ⟨X, 6, none⟩ = some (.int .i64 0) := k9.cell 6
      have u7 : w9.cell? ⟨X, 7, none⟩ = some (.bool false) := k9.cell 7
      have HB9 := hide b9
      clear k9 b9
      go_wp2_with fail
      exact bodyPost_ret (v := .tuple #[.agg #[.string ⟨#[]⟩, .int .i64 0, .int .i64 0, .int .i64 0, .int .i64 0, .int .i64 0, .int .i64 0, .bool false], .bool false]) (by simp [results, Try.results79, go_sem, u0, u1, u2, u3, u4, u5, u6, u7]) rfl ⟨by rw [FN.out]; rfl, by rw [HX.out]; exact HB9.out⟩
  · obtain ⟨x, hx, e⟩ := HQ1.out.row hr
    rw [e] at lk
    simp only [Option.getD_some, rowV] at lk
    have hfi := HQ1.out.cfi _ hx
    simp only at hfi
    have hfi1 := hfi.1
    have HFI := hide hfi.2
    have HXM := hide hx
    have hcap : (rowsOf l c).length ≤ x.cap := by
      have h0 : 0 < (rowsOf l c).length := List.length_pos_iff.2 hr
      obtain ⟨_, _, _, _, _, _, hc, _⟩ := own_cell (HQ1.out.crow _ hx) h0
      exact hc
    clear hfi hx e hr
    by_cases hfc : x.fi = x.cap
    · have hz : (rowsOf l c).length - x.fi = 0 := by omega
      have FN : Hid (firstL l c tag = none) := hide (by
        rw [← first_row, ← firstR_drop tag HFI.out, List.drop_of_length_le (by omega)]
        rfl)
      have HBA := hide (fun (o : Obj) => HB1.out.trans (((Below.refl w1.heap.size w1).alloc (Nat.le_refl _) o).mono (Nat.le_of_lt KX.out.lt)))
      have KXA := hide (fun (o : Obj) => KX.out.below ((Below.refl w1.heap.size w1).alloc (Nat.le_refl _) o) KX.out.lt)
      clear hcap
      go_wp2_with fail
      go_loopw [14, 34] (fun _ v34 wr => v34 = .int .i64 0 ∧ Hid (Blk wr X 33 #[.string ⟨#[]⟩, .int .i64 0, .int .i64 0, .int .i64 0, .int .i64 0, .int .i64 0, .int .i64 0, .bool false]) ∧ Hid (Below X w wr)) (fun _ _ _ => 0)
      case atStart => exact ⟨rfl, hide (KXA.out _), hide (HBA.out _)⟩
      case round =>
        obtain ⟨rfl, KXR, HBR⟩ := hrel
        rename World => wr
        have z0 : wr.cell? ⟨X, 0, none⟩ = some (.string ⟨#[]⟩) := KXR.out.cell 0
        have z1 : wr.cell? ⟨X, 1, none⟩ = some (.int .i64 0) := KXR.out.cell 1
        have z2 : wr.cell? ⟨X, 2, none⟩ = some (.int .i64 0) := KXR.out.cell 2
        have z3 : wr.cell? ⟨X, 3, none⟩ = some (.int .i64 0) := KXR.out.cell 3
        have z4 : wr.cell? ⟨X, 4, none⟩ = some (.int .i64 0) := KXR.out.cell 4
        have z5 : wr.cell? ⟨X, 5, none⟩ = some (.int .i64 0) := KXR.out.cell 5
        have z6 : wr.cell? ⟨X, 6, none⟩ = some (.int .i64 0) := KXR.out.cell 6
        have z7 : wr.cell? ⟨X, 7, none⟩ = some (.bool false) := KXR.out.cell 7
        have f0 := KXR.out.frozen 0
        have f1 := KXR.out.frozen 1
        have f2 := KXR.out.frozen 2
        have f3 := KXR.out.frozen 3
        have f4 := KXR.out.frozen 4
        have f5 := KXR.out.frozen 5
        have f6 := KXR.out.frozen 6
        have f7 := KXR.out.frozen 7
        have k9 := put8 (KXR.out) (.string ⟨#[]⟩) (.int .i64 0) (.int .i64 0) (.int .i64 0) (.int .i64 0) (.int .i64 0) (.int .i64 0) (.bool false)
        have b9 := bel8 (HBR.out) (.string ⟨#[]⟩) (.int .i64 0) (.int .i64 0) (.int .i64 0) (.int .i64 0) (.int .i64 0) (.int .i64 0) (.bool false)
        obtain ⟨w9, hw9⟩ : ∃ z, ((((((((wr.setCell ⟨X, 0, none⟩ (.string ⟨#[]⟩)).setCell ⟨X, 1, none⟩ (.int .i64 0)).setCell ⟨X, 2, none⟩ (.int .i64 0)).setCell ⟨X, 3, none⟩ (.int .i64 0)).setCell ⟨X, 4, none⟩ (.int .i64 0)).setCell ⟨X, 5, none⟩ (.int .i64 0)).setCell ⟨X, 6, none⟩ (.int .i64 0)).setCell ⟨X, 7, none⟩ (.bool false)) = z := ⟨_, rfl⟩
        rw [hw9] at k9 b9
        have u0 : w9.cell? ⟨X, 0, none⟩ = some (.string ⟨#[]⟩) := k9.cell 0
        have u1 : w9.cell? ⟨X, 1, none⟩ = some (.int .i64 0) := k9.cell 1
        have u2 : w9.cell? ⟨X, 2, none⟩ = some (.int .i64 0) := k9.cell 2
        have u3 : w9.cell? ⟨X, 3, none⟩ = some (.int .i64 0) := k9.cell 3
        have u4 : w9.cell? ⟨X, 4, none⟩ = some (.int .i64 0) := k9.cell 4
        have u5 : w9.cell? ⟨X, 5, none⟩ = some (.int .i64 0) := k9.cell 5
        have u6 : w9.cell? ⟨X, 6, none⟩ = some (.int .i64 0) := k9.cell 6
        have u7 : w9.cell? ⟨X, 7, none⟩ = some (.bool false) := k9.cell 7
        have HB9 := hide b9
        clear k9 b9
        go_wp2_with fail
        exact bodyPost_ret (v := .tuple #[.agg #[.string ⟨#[]⟩, .int .i64 0, .int .i64 0, .int .i64 0, .int .i64 0, .int .i64 0, .int .i64 0, .bool false], .bool false]) (by simp [results, Try.results79, go_sem, u0, u1, u2, u3, u4, u5, u6, u7]) rfl ⟨by rw [FN.out]; rfl, by rw [HX.out]; exact HB9.out⟩
    clear hcap
    go_wp2_with fail
    have bz := (Below.refl w1.heap.size w1).alloc (Nat.le_refl _) (.cells #[.slice (some ⟨x.g, 0, none⟩) (rowsOf l c).length x.cap, .int .i64 x.fi] 103)
    obtain ⟨w2, hw2⟩ : ∃ z, w1.alloc (.cells #[.slice (some ⟨x.g, 0, none⟩) (rowsOf l c).length x.cap, .int .i64 x.fi] 103) = z := ⟨_, rfl⟩
    rw [hw2] at bz ⊢
    have KX2 := hide (KX.out.below bz KX.out.lt)
    have HB2 := hide (HB1.out.trans (bz.mono (Nat.le_of_lt KX.out.lt)))
    have HQ2 := hide (HQ1.out.below bz)
    obtain ⟨n, hn⟩ : ∃ n, (rowsOf l c).length - x.fi = n := ⟨_, rfl⟩
    rw [hn]
    have HN := hide hn
    have HNL := hide (show n ≤ 1000 by have := rowsOf_len l c; omega)
    have HFI1 := hide hfi1
    clear bz hw2 lk c0 MC hn hfi1
    go_loopw [14, 34] (fun _ v34 wr => ∃ j : Nat, j ≤ n ∧ v34 = .int .i64 j ∧ Hid (∀ m ∈ ((rowsOf l c).drop x.fi).take j, (!m.tk && tagged tag m) = false) ∧ Hid (QSt wr q L l) ∧ Hid (Blk wr X 33 #[.string ⟨#[]⟩, .int .i64 0, .int .i64 0, .int .i64 0, .int .i64 0, .int .i64 0, .int .i64 0, .bool false]) ∧ Hid (Below X w wr)) (fun _ v34 _ => n - (RowKit.intOf v34).toNat)
    case atStart => exact ⟨0, Nat.zero_le _, rfl, hide (fun m hm => absurd hm (by simp)), HQ2, KX2, HB2⟩
    case round =>
      obtain ⟨j, hj, rfl, HNO, HQR, KXR, HBR⟩ := hrel
      rename World => wr
      have hn1 := HNL.out
      by_cases hlt : j < n
      rotate_left
      · have hltI : ¬ (j : Int) < (n : Int) := by omega
        have FN : Hid (firstL l c tag = none) := hide (by
          rw [← first_row, ← firstR_drop tag HFI.out]
          refine List.find?_eq_none.2 fun m hm => ?_
          have h1 := HNO.out m (by rw [List.take_of_length_le (by rw [List.length_drop]; have := HN.out; omega)]; exact hm)
          rw [h1]
          decide)
        have z0 : wr.cell? ⟨X, 0, none⟩ = some (.string ⟨#[]⟩) := KXR.out.cell 0
        have z1 : wr.cell? ⟨X, 1, none⟩ = some (.int .i64 0) := KXR.out.cell 1
        have z2 : wr.cell? ⟨X, 2, none⟩ = some (.int .i64 0) := KXR.out.cell 2
        have z3 : wr.cell? ⟨X, 3, none⟩ = some (.int .i64 0) := KXR.out.cell 3
        have z4 : wr.cell? ⟨X, 4, none⟩ = some (.int .i64 0) := KXR.out.cell 4
        have z5 : wr.cell? ⟨X, 5, none⟩ = some (.int .i64 0) := KXR.out.cell 5
        have z6 : wr.cell? ⟨X, 6, none⟩ = some (.int .i64 0) := KXR.out.cell 6
        have z7 : wr.cell? ⟨X, 7, none⟩ = some (.bool false) := KXR.out.cell 7
        have f0 := KXR.out.frozen 0
        have f1 := KXR.out.frozen 1
        have f2 := KXR.out.frozen 2
        have f3 := KXR.out.frozen 3
        have f4 := KXR.out.frozen 4
        have f5 := KXR.out.frozen 5
        have f6 := KXR.out.frozen 6
        have f7 := KXR.out.frozen 7
        have k9 := put8 (KXR.out) (.string ⟨#[]⟩) (.int .i64 0) (.int .i64 0) (.int .i64 0) (.int .i64 0) (.int .i64 0) (.int .i64 0) (.bool false)
        have b9 := bel8 (HBR.out) (.string ⟨#[]⟩) (.int .i64 0) (.int .i64 0) (.int .i64 0) (.int .i64 0) (.int .i64 0) (.int .i64 0) (.bool false)
        obtain ⟨w9, hw9⟩ : ∃ z, ((((((((wr.setCell ⟨X, 0, none⟩ (.string ⟨#[]⟩)).setCell ⟨X, 1, none⟩ (.int .i64 0)).setCell ⟨X, 2, none⟩ (.int .i64 0)).setCell ⟨X, 3, none⟩ (.int .i64 0)).setCell ⟨X, 4, none⟩ (.int .i64 0)).setCell ⟨X, 5, none⟩ (.int .i64 0)).setCell ⟨X, 6, none⟩ (.int .i64 0)).setCell ⟨X, 7, none⟩ (.bool false)) = z := ⟨_, rfl⟩
        rw [hw9] at k9 b9
        have u0 : w9.cell? ⟨X, 0, none⟩ = some (.string ⟨#[]⟩) := k9.cell 0
        have u1 : w9.cell? ⟨X, 1, none⟩ = some (.int .i64 0) := k9.cell 1
        have u2 : w9.cell? ⟨X, 2, none⟩ = some (.int .i64 0) := k9.cell 2
        have u3 : w9.cell? ⟨X, 3, none⟩ = some (.int .i64 0) := k9.cell 3
        have u4 : w9.cell? ⟨X, 4, none⟩ = some (.int .i64 0) := k9.cell 4
        have u5 : w9.cell? ⟨X, 5, none⟩ = some (.int .i64 0) := k9.cell 5
        have u6 : w9.cell? ⟨X, 6, none⟩ = some (.int .i64 0) := k9.cell 6
        have u7 : w9.cell? ⟨X, 7, none⟩ = some (.bool false) := k9.cell 7
        have HB9 := hide b9
        clear k9 b9
        go_wp2_with fail
        exact bodyPost_ret (v := .tuple #[.agg #[.string ⟨#[]⟩, .int .i64 0, .int .i64 0, .int .i64 0, .int .i64 0, .int .i64 0, .int .i64 0, .bool false], .bool false]) (by simp [results, Try.results79, go_sem, u0, u1, u2, u3, u4, u5, u6, u7]) rfl ⟨by rw [FN.out]; rfl, by rw [HX.out]; exact HB9.out⟩
      have hltI : (j : Int) < (n : Int) := by omega
      obtain ⟨⟨mk, mf, mt, mc, mg, mv, mz, mb⟩, hm⟩ : ∃ m, ((rowsOf l c).drop x.fi)[j]? = some m := ⟨_, List.getElem?_eq_getElem (by rw [List.length_drop]; have := HN.out; omega)⟩
      have hit : ∀ k v, (msgC ⟨mk, mf, mt, mc, mg, mv, mz, mb⟩)[k]? = some v → wr.cell? ⟨x.g, x.fi * 8 + j * 8 + k, none⟩ = some v := fun k v hv => by
        rw [← Nat.add_mul]
        exact HQR.out.item HXM.out (i := x.fi + j) (by rw [← List.getElem?_drop]; exact hm) k v hv
      have n0 : wr.cell? ⟨x.g, x.fi * 8 + j * 8, none⟩ = some (.string mk) := hit 0 _ rfl
      have n1 : wr.cell? ⟨x.g, x.fi * 8 + j * 8 + 1, none⟩ = some (.int .i64 mf) := hit 1 _ rfl
      have n2 : wr.cell? ⟨x.g, x.fi * 8 + j * 8 + 2, none⟩ = some (.int .i64 mt) := hit 2 _ rfl
      have n3 : wr.cell? ⟨x.g, x.fi * 8 + j * 8 + 3, none⟩ = some (.int .i64 mc) := hit 3 _ rfl
      have n4 : wr.cell? ⟨x.g, x.fi * 8 + j * 8 + 4, none⟩ = some (.int .i64 mg) := hit 4 _ rfl
      have n5 : wr.cell? ⟨x.g, x.fi * 8 + j * 8 + 5, none⟩ = some (.int .i64 mv) := hit 5 _ rfl
      have n6 : wr.cell? ⟨x.g, x.fi * 8 + j * 8 + 6, none⟩ = some (.int .i64 mz) := hit 6 _ rfl
      have n7 : wr.cell? ⟨x.g, x.fi * 8 + j * 8 + 7, none⟩ = some (.bool mb) := hit 7 _ rfl
      have HM := hide hm
      have HLT := hide hlt
      have by_ := (Below.refl wr.heap.size wr).alloc (Nat.le_refl _) (.cells #[.string mk, .int .i64 mf, .int .i64 mt, .int .i64 mc, .int .i64 mg, .int .i64 mv, .int .i64 mz, .bool mb] 33)
      have ky := Blk.new wr 33 #[.string mk, .int .i64 mf, .int .i64 mt, .int .i64 mc, .int .i64 mg, .int .i64 mv, .int .i64 mz, .bool mb]
      obtain ⟨ws, hws⟩ : ∃ z, wr.alloc (.cells #[.string mk, .int .i64 mf, .int .i64 mt, .int .i64 mc, .int .i64 mg, .int .i64 mv, .int .i64 mz, .bool mb] 33) = z := ⟨_, rfl⟩
      obtain ⟨Y, hY⟩ : ∃ z, wr.heap.size = z := ⟨_, rfl⟩
      rw [hws] at by_ ky
      rw [hY] at ky
      have KXS := hide (KXR.out.below by_ KXR.out.lt)
      have HBS := hide (HBR.out.trans (by_.mono (Nat.le_of_lt KXR.out.lt)))
      have HQS := hide (HQR.out.below by_)
      have HWS := hide hws
      have HY := hide hY
      have KY := hide ky
      clear hit hm by_ ky hws hY hlt
      go_upto_region 7 with (fail)
      rw [HWS.out, HY.out]
      clear HWS HY n0 n1 n2 n3 n4 n5 n6 n7
      have y0 : ws.cell? ⟨Y, 0, none⟩ = some (.string mk) := KY.out.cell 0
      have y1 : ws.cell? ⟨Y, 1, none⟩ = some (.int .i64 mf) := KY.out.cell 1
      have y2 : ws.cell? ⟨Y, 2, none⟩ = some (.int .i64 mt) := KY.out.cell 2
      have y3 : ws.cell? ⟨Y, 3, none⟩ = some (.int .i64 mc) := KY.out.cell 3
      have y4 : ws.cell? ⟨Y, 4, none⟩ = some (.int .i64 mg) := KY.out.cell 4
      have y5 : ws.cell? ⟨Y, 5, none⟩ = some (.int .i64 mv) := KY.out.cell 5
      have y6 : ws.cell? ⟨Y, 6, none⟩ = some (.int .i64 mz) := KY.out.cell 6
      have y7 : ws.cell? ⟨Y, 7, none⟩ = some (.bool mb) := KY.out.cell 7
      have hdec : (mb = true ∨ (mb = false ∧ ¬ tag = -1 ∧ ¬ tag = mg)) ∨ (mb = false ∧ tag = -1) ∨ (mb = false ∧ ¬ tag = -1 ∧ tag = mg) := by
        cases mb with
        | true => exact .inl (.inl rfl)
        | false =>
          by_cases h1 : tag = -1
          · exact .inr (.inl ⟨rfl, h1⟩)
          · by_cases h2 : tag = mg
            · exact .inr (.inr ⟨rfl, h1, h2⟩)
            · exact .inl (.inr ⟨rfl, h1, h2⟩)
      rcases hdec with (rfl | ⟨rfl, h1, h2⟩) | ⟨rfl, h1⟩ | ⟨rfl, h1, h2⟩
      · have HNO1 := hide (show ∀ m ∈ ((rowsOf l c).drop x.fi).take (j + 1), (!m.tk && tagged tag m) = false from fun m hm => by
          obtain ⟨hl1, he1⟩ := List.getElem?_eq_some_iff.1 HM.out
          rw [List.take_succ_eq_append_getElem hl1] at hm
          rcases List.mem_append.1 hm with hm | hm
          · exact HNO.out m hm
          · rw [List.mem_singleton.1 hm, he1]
            simp [tagged])
        go_wp2_with fail
        go_roundw
        case rel => exact ⟨j + 1, HLT.out, by go_num, HNO1, HQS, KXS, HBS⟩
        case measure => have := HLT.out; simp [RowKit.intOf] <;> omega
      · have H1 := hide h1
        have t1 : (tag == -1) = false := by simpa using h1
        have H2 := hide h2
        have t2 : (tag == mg) = false := by simpa using h2
        clear h2
        clear h1
        have HNO1 := hide (show ∀ m ∈ ((rowsOf l c).drop x.fi).take (j + 1), (!m.tk && tagged tag m) = false from fun m hm => by
          obtain ⟨hl1, he1⟩ := List.getElem?_eq_some_iff.1 HM.out
          rw [List.take_succ_eq_append_getElem hl1] at hm
          rcases List.mem_append.1 hm with hm | hm
          · exact HNO.out m hm
          · rw [List.mem_singleton.1 hm, he1]
            simp [tagged, H1.out, H2.out])
        go_wp2_with fail
        go_roundw
        case rel => exact ⟨j + 1, HLT.out, by go_num, HNO1, HQS, KXS, HBS⟩
        case measure => have := HLT.out; simp [RowKit.intOf] <;> omega
      · have H1 := hide h1
        have t1 : (tag == -1) = true := by simpa using h1
        clear h1
        have FS : Hid (firstL l c tag = some ⟨mk, mf, mt, mc, mg, mv, mz, false⟩) := hide (by
          rw [← first_row, ← firstR_drop tag HFI.out]
          exact find_at HNO.out HM.out (by simp [tagged, H1.out]))
        have z0 : ws.cell? ⟨X, 0, none⟩ = some (.string ⟨#[]⟩) := KXS.out.cell 0
        have z1 : ws.cell? ⟨X, 1, none⟩ = some (.int .i64 0) := KXS.out.cell 1
        have z2 : ws.cell? ⟨X, 2, none⟩ = some (.int .i64 0) := KXS.out.cell 2
        have z3 : ws.cell? ⟨X, 3, none⟩ = some (.int .i64 0) := KXS.out.cell 3
        have z4 : ws.cell? ⟨X, 4, none⟩ = some (.int .i64 0) := KXS.out.cell 4
        have z5 : ws.cell? ⟨X, 5, none⟩ = some (.int .i64 0) := KXS.out.cell 5
        have z6 : ws.cell? ⟨X, 6, none⟩ = some (.int .i64 0) := KXS.out.cell 6
        have z7 : ws.cell? ⟨X, 7, none⟩ = some (.bool false) := KXS.out.cell 7
        have f0 := KXS.out.frozen 0
        have f1 := KXS.out.frozen 1
        have f2 := KXS.out.frozen 2
        have f3 := KXS.out.frozen 3
        have f4 := KXS.out.frozen 4
        have f5 := KXS.out.frozen 5
        have f6 := KXS.out.frozen 6
        have f7 := KXS.out.frozen 7
        have k9 := put8 (KXS.out) (.string mk) (.int .i64 mf) (.int .i64 mt) (.int .i64 mc) (.int .i64 mg) (.int .i64 mv) (.int .i64 mz) (.bool false)
        have b9 := bel8 (HBS.out) (.string mk) (.int .i64 mf) (.int .i64 mt) (.int .i64 mc) (.int .i64 mg) (.int .i64 mv) (.int .i64 mz) (.bool false)
        obtain ⟨w9, hw9⟩ : ∃ z, ((((((((ws.setCell ⟨X, 0, none⟩ (.string mk)).setCell ⟨X, 1, none⟩ (.int .i64 mf)).setCell ⟨X, 2, none⟩ (.int .i64 mt)).setCell ⟨X, 3, none⟩ (.int .i64 mc)).setCell ⟨X, 4, none⟩ (.int .i64 mg)).setCell ⟨X, 5, none⟩ (.int .i64 mv)).setCell ⟨X, 6, none⟩ (.int .i64 mz)).setCell ⟨X, 7, none⟩ (.bool false)) = z := ⟨_, rfl⟩
        rw [hw9] at k9 b9
        have u0 : w9.cell? ⟨X, 0, none⟩ = some (.string mk) := k9.cell 0
        have u1 : w9.cell? ⟨X, 1, none⟩ = some (.int .i64 mf) := k9.cell 1
        have u2 : w9.cell? ⟨X, 2, none⟩ = some (.int .i64 mt) := k9.cell 2
        have u3 : w9.cell? ⟨X, 3, none⟩ = some (.int .i64 mc) := k9.cell 3
        have u4 : w9.cell? ⟨X, 4, none⟩ = some (.int .i64 mg) := k9.cell 4
        have u5 : w9.cell? ⟨X, 5, none⟩ = some (.int .i64 mv) := k9.cell 5
        have u6 : w9.cell? ⟨X, 6, none⟩ = some (.int .i64 mz) := k9.cell 6
        have u7 : w9.cell? ⟨X, 7, none⟩ = some (.bool false) := k9.cell 7
        have HB9 := hide b9
        clear k9 b9
        go_wp2_with fail
        exact bodyPost_ret (v := .tuple #[.agg #[.string mk, .int .i64 mf, .int .i64 mt, .int .i64 mc, .int .i64 mg, .int .i64 mv, .int .i64 mz, .bool false], .bool true]) (by simp [results, Try.results79, go_sem, u0, u1, u2, u3, u4, u5, u6, u7]) rfl ⟨by rw [FS.out]; rfl, by rw [HX.out]; exact HB9.out⟩
      · have H1 := hide h1
        have t1 : (tag == -1) = false := by simpa using h1
        have H2 := hide h2
        have t2 : (tag == mg) = true := by simpa using h2
        clear h2
        clear h1
        have FS : Hid (firstL l c tag = some ⟨mk, mf, mt, mc, mg, mv, mz, false⟩) := hide (by
          rw [← first_row, ← firstR_drop tag HFI.out]
          exact find_at HNO.out HM.out (by simp [tagged, H1.out, H2.out]))
        have z0 : ws.cell? ⟨X, 0, none⟩ = some (.string ⟨#[]⟩) := KXS.out.cell 0
        have z1 : ws.cell? ⟨X, 1, none⟩ = some (.int .i64 0) := KXS.out.cell 1
        have z2 : ws.cell? ⟨X, 2, none⟩ = some (.int .i64 0) := KXS.out.cell 2
        have z3 : ws.cell? ⟨X, 3, none⟩ = some (.int .i64 0) := KXS.out.cell 3
        have z4 : ws.cell? ⟨X, 4, none⟩ = some (.int .i64 0) := KXS.out.cell 4
        have z5 : ws.cell? ⟨X, 5, none⟩ = some (.int .i64 0) := KXS.out.cell 5
        have z6 : ws.cell? ⟨X, 6, none⟩ = some (.int .i64 0) := KXS.out.cell 6
        have z7 : ws.cell? ⟨X, 7, none⟩ = some (.bool false) := KXS.out.cell 7
        have f0 := KXS.out.frozen 0
        have f1 := KXS.out.frozen 1
        have f2 := KXS.out.frozen 2
        have f3 := KXS.out.frozen 3
        have f4 := KXS.out.frozen 4
        have f5 := KXS.out.frozen 5
        have f6 := KXS.out.frozen 6
        have f7 := KXS.out.frozen 7
        have k9 := put8 (KXS.out) (.string mk) (.int .i64 mf) (.int .i64 mt) (.int .i64 mc) (.int .i64 mg) (.int .i64 mv) (.int .i64 mz) (.bool false)
        have b9 := bel8 (HBS.out) (.string mk) (.int .i64 mf) (.int .i64 mt) (.int .i64 mc) (.int .i64 mg) (.int .i64 mv) (.int .i64 mz) (.bool false)
        obtain ⟨w9, hw9⟩ : ∃ z, ((((((((ws.setCell ⟨X, 0, none⟩ (.string mk)).setCell ⟨X, 1, none⟩ (.int .i64 mf)).setCell ⟨X, 2, none⟩ (.int .i64 mt)).setCell ⟨X, 3, none⟩ (.int .i64 mc)).setCell ⟨X, 4, none⟩ (.int .i64 mg)).setCell ⟨X, 5, none⟩ (.int .i64 mv)).setCell ⟨X, 6, none⟩ (.int .i64 mz)).setCell ⟨X, 7, none⟩ (.bool false)) = z := ⟨_, rfl⟩
        rw [hw9] at k9 b9
        have u0 : w9.cell? ⟨X, 0, none⟩ = some (.string mk) := k9.cell 0
        have u1 : w9.cell? ⟨X, 1, none⟩ = some (.int .i64 mf) := k9.cell 1
        have u2 : w9.cell? ⟨X, 2, none⟩ = some (.int .i64 mt) := k9.cell 2
        have u3 : w9.cell? ⟨X, 3, none⟩ = some (.int .i64 mc) := k9.cell 3
        have u4 : w9.cell? ⟨X, 4, none⟩ = some (.int .i64 mg) := k9.cell 4
        have u5 : w9.cell? ⟨X, 5, none⟩ = some (.int .i64 mv) := k9.cell 5
        have u6 : w9.cell? ⟨X, 6, none⟩ = some (.int .i64 mz) := k9.cell 6
        have u7 : w9.cell? ⟨X, 7, none⟩ = some (.bool false) := k9.cell 7
        have HB9 := hide b9
        clear k9 b9
        go_wp2_with fail
        exact bodyPost_ret (v := .tuple #[.agg #[.string mk, .int .i64 mf, .int .i64 mt, .int .i64 mc, .int .i64 mg, .int .i64 mv, .int .i64 mz, .bool false], .bool true]) (by simp [results, Try.results79, go_sem, u0, u1, u2, u3, u4, u5, u6, u7]) rfl ⟨by rw [FS.out]; rfl, by rw [HX.out]; exact HB9.out⟩
end Qu
end Go.Proofs.Ytonmojinijpneaa
