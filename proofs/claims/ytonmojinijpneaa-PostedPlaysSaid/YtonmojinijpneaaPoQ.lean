/- Is a message of that sender and call among them? -/
import Derived.Test.YtonmojinijpneaaRows
import Derived.Test.YtonmojinijpneaaPoP
namespace Go.Proofs.Ytonmojinijpneaa
open Go Go.RowKit Go.Lib Go.Proofs.Ytonmojinijpneaa.Qu
set_option linter.unusedVariables false
set_option linter.unusedSimpArgs false
namespace Po
set_option maxRecDepth 100000 in
set_option maxHeartbeats 4000000 in
theorem matchF_c (mk : ByteArray) (mf mt mc mg mv mz : Int) (mb : Bool) (a b from_ seq : Int) (ga gb : Nat) (w : World) (ha : w.cell? ⟨ga, 0, none⟩ = some (.int .i64 from_)) (hb : w.cell? ⟨gb, 0, none⟩ = some (.int .i64 seq)) (hga : ga < w.heap.size) (hgb : gb < w.heap.size) :
    Calls Try.prog 65 #[.agg #[.string mk, .int .i64 mf, .int .i64 mt, .int .i64 mc, .int .i64 mg, .int .i64 mv, .int .i64 mz, .bool mb], .pointer (some ⟨ga, 0, none⟩), .pointer (some ⟨gb, 0, none⟩)] w fun e w' => e = .returned (.bool (decide (mf = from_ ∧ mc = seq))) ∧ Below w.heap.size w w' := by
  have b1 := (Below.refl w.heap.size w).alloc (Nat.le_refl _) (.cells #[.string mk, .int .i64 mf, .int .i64 mt, .int .i64 mc, .int .i64 mg, .int .i64 mv, .int .i64 mz, .bool mb] 33)
  have kx := Blk.new w 33 (#[.string mk, .int .i64 mf, .int .i64 mt, .int .i64 mc, .int .i64 mg, .int .i64 mv, .int .i64 mz, .bool mb])
  obtain ⟨w1, hw1⟩ : ∃ z, w.alloc (.cells #[.string mk, .int .i64 mf, .int .i64 mt, .int .i64 mc, .int .i64 mg, .int .i64 mv, .int .i64 mz, .bool mb] 33) = z := ⟨_, rfl⟩
  obtain ⟨X, hX⟩ : ∃ z, w.heap.size = z := ⟨_, rfl⟩
  rw [hw1] at b1 kx
  rw [hX] at kx
  have x1 : w1.cell? ⟨X, 1, none⟩ = some (.int .i64 mf) := kx.cell 1
  have x3 : w1.cell? ⟨X, 3, none⟩ = some (.int .i64 mc) := kx.cell 3
  have ya : w1.cell? ⟨ga, 0, none⟩ = some (.int .i64 from_) := (b1.cell (p := ⟨ga, 0, none⟩) hga).trans ha
  have yb : w1.cell? ⟨gb, 0, none⟩ = some (.int .i64 seq) := (b1.cell (p := ⟨gb, 0, none⟩) hgb).trans hb
  have B1 := hide b1
  have HW1 := hide hw1
  have HX := hide hX
  clear b1 kx hw1 hX ha hb hga hgb
  by_cases h1 : mf = from_
  rotate_left
  · have h1b : (mf == from_) = false := by simp [h1]
    go_enter Try.func65, Try.ntmps65
    go_upto_region 1 with (fail)
    rw [HW1.out, HX.out]
    go_wp2_with fail
    go_ret
    exact ⟨by first | (rw [show decide (mf = from_ ∧ mc = seq) = false from decide_eq_false fun h => h1 h.1]; rfl) | (simp [h2]; done) | (simp; done), B1.out⟩
  subst h1
  by_cases h2 : mc = seq
  rotate_left
  · have h2b : (mc == seq) = false := by simp [h2]
    go_enter Try.func65, Try.ntmps65
    go_upto_region 1 with (fail)
    rw [HW1.out, HX.out]
    go_wp2_with fail
    go_ret
    exact ⟨by first | (rw [show decide (mf = mf ∧ mc = seq) = false from decide_eq_false fun h => h2 h.2]; rfl) | (simp [h2]; done) | (simp; done), B1.out⟩
  subst h2
  go_enter Try.func65, Try.ntmps65
  go_upto_region 1 with (fail)
  rw [HW1.out, HX.out]
  go_wp2_with fail
  go_ret
  exact ⟨by first | (rw [show decide (mf = mf ∧ mc = mc) = true from decide_eq_true ⟨rfl, rfl⟩]; rfl) | (simp [h2]; done) | (simp; done), B1.out⟩
/-- Is one of that sender and call among them? -/
def hasB (l : List Msg) (from_ seq : Int) : Bool := l.any fun m => decide (m.fr = from_ ∧ m.ca = seq)
set_option maxRecDepth 100000 in
set_option maxHeartbeats 16000000 in
theorem index_c (w : World) (A : Option Addr) (cap n : Nat) (r : List Msg) (h : MRow w A r) (hn : r.length = n) (hl : n ≤ 100000) (from_ seq : Int) (ga gb : Nat) (ha : w.cell? ⟨ga, 0, none⟩ = some (.int .i64 from_)) (hb : w.cell? ⟨gb, 0, none⟩ = some (.int .i64 seq)) (hga : ga < w.heap.size) (hgb : gb < w.heap.size) :
    Calls Try.prog 87 #[.slice A n cap, .func (.func 65) #[] #[.pointer (some ⟨ga, 0, none⟩), .pointer (some ⟨gb, 0, none⟩)]] w fun e w' => (∃ i : Int, e = .returned (.int .i64 i) ∧ decide (0 ≤ i) = hasB r from_ seq) ∧ Below w.heap.size w w' := by
  have HR := hide h
  have HN := hide hn
  have MC : Hid (∀ wr, Below w.heap.size w wr → ∀ mk mf mt mc mg mv mz mb, Calls Try.prog 65 #[.agg #[.string mk, .int .i64 mf, .int .i64 mt, .int .i64 mc, .int .i64 mg, .int .i64 mv, .int .i64 mz, .bool mb], .pointer (some ⟨ga, 0, none⟩), .pointer (some ⟨gb, 0, none⟩)] wr fun e w' => e = .returned (.bool (decide (mf = from_ ∧ mc = seq))) ∧ Below wr.heap.size wr w') := hide (fun wr hbw mk mf mt mc mg mv mz mb => matchF_c mk mf mt mc mg mv mz mb 0 0 from_ seq ga gb wr ((hbw.cell (p := ⟨ga, 0, none⟩) hga).trans ha) ((hbw.cell (p := ⟨gb, 0, none⟩) hgb).trans hb) (Nat.lt_of_lt_of_le hga hbw.size) (Nat.lt_of_lt_of_le hgb hbw.size))
  clear h hn ha hb hga hgb
  go_enter Try.func87, Try.ntmps87
  go_wp2_with fail
  go_loopw [5, 8] (fun _ v8 wr => (∃ j : Nat, j ≤ n ∧ v8 = .int .i64 j ∧ Hid (∀ i m, i < j → r[i]? = some m → decide (m.fr = from_ ∧ m.ca = seq) = false)) ∧ Hid (Below w.heap.size w wr)) (fun _ v8 _ => n - (RowKit.intOf v8).toNat)
  case atStart => exact ⟨⟨0, Nat.zero_le _, rfl, hide fun i m hi _ => absurd hi (Nat.not_lt_zero i)⟩, hide (Below.refl _ _)⟩
  case round =>
    obtain ⟨⟨j, hj, rfl, HL⟩, HB⟩ := hrel
    rename World => wr
    by_cases hlt : j < n
    · have hltI : (j : Int) < (n : Int) := by omega
      obtain ⟨⟨mk, mf, mt, mc, mg, mv, mz, mb⟩, hm⟩ : ∃ m, r[j]? = some m := ⟨_, List.getElem?_eq_getElem (by rw [HN.out]; exact hlt)⟩
      obtain ⟨g, rfl, hg, hit⟩ := (HR.out.below HB.out).it j _ hm
      have n0 : wr.cell? ⟨g, j * 8, none⟩ = some (.string mk) := hit 0 _ rfl
      have n1 : wr.cell? ⟨g, j * 8 + 1, none⟩ = some (.int .i64 mf) := hit 1 _ rfl
      have n2 : wr.cell? ⟨g, j * 8 + 2, none⟩ = some (.int .i64 mt) := hit 2 _ rfl
      have n3 : wr.cell? ⟨g, j * 8 + 3, none⟩ = some (.int .i64 mc) := hit 3 _ rfl
      have n4 : wr.cell? ⟨g, j * 8 + 4, none⟩ = some (.int .i64 mg) := hit 4 _ rfl
      have n5 : wr.cell? ⟨g, j * 8 + 5, none⟩ = some (.int .i64 mv) := hit 5 _ rfl
      have n6 : wr.cell? ⟨g, j * 8 + 6, none⟩ = some (.int .i64 mz) := hit 6 _ rfl
      have n7 : wr.cell? ⟨g, j * 8 + 7, none⟩ = some (.bool mb) := hit 7 _ rfl
      have HM := hide hm
      have HLT := hide hlt
      obtain ⟨fb, hfb⟩ : ∃ z, decide (mf = from_ ∧ mc = seq) = z := ⟨_, rfl⟩
      have FC : Hid (Calls Try.prog 65 #[.agg #[.string mk, .int .i64 mf, .int .i64 mt, .int .i64 mc, .int .i64 mg, .int .i64 mv, .int .i64 mz, .bool mb], .pointer (some ⟨ga, 0, none⟩), .pointer (some ⟨gb, 0, none⟩)] wr fun e w' => e = .returned (.bool fb) ∧ Below wr.heap.size wr w') := hide (by
        have h := MC.out wr HB.out mk mf mt mc mg mv mz mb
        rwa [hfb] at h)
      have HFB := hide hfb
      clear hfb hit hm hg
      cases fb with
      | true =>
        have FE : Hid (hasB r from_ seq = true) := hide (by unfold hasB; rw [List.any_eq_true]; exact ⟨_, List.mem_of_getElem? HM.out, HFB.out⟩)
        have hj0 : (0 : Int) ≤ (j : Int) := by omega
        go_wp2_with (go_at_call 65; refine FC.out.mono ?_; rintro e wt ⟨rfl, hbt⟩)
        go_ret
        exact ⟨⟨(j : Int), rfl, by rw [FE.out]; exact decide_eq_true hj0⟩, HB.out.trans (hbt.mono HB.out.size)⟩
      | false =>
        go_wp2_with (go_at_call 65; refine FC.out.mono ?_; rintro e wt ⟨rfl, hbt⟩)
        have HBT := hide (HB.out.trans (hbt.mono HB.out.size))
        clear hbt
        go_roundw
        case rel => exact ⟨⟨j + 1, HLT.out, by go_num, hide fun i m hi hm => by
          rcases Nat.lt_or_ge i j with h | h
          · exact HL.out i m h hm
          · obtain rfl : i = j := by omega
            have e := hm.symm.trans HM.out
            injection e with e
            subst e
            exact HFB.out⟩, HBT⟩
        case measure => have := HLT.out; simp [RowKit.intOf] <;> omega
    · have hltI : ¬ (j : Int) < (n : Int) := by omega
      have FE : Hid (hasB r from_ seq = false) := hide (by
        unfold hasB
        rw [List.any_eq_false]
        intro m hm
        obtain ⟨t, ht, rfl⟩ := List.getElem_of_mem hm
        have := HL.out t _ (by have := HN.out; omega) (List.getElem?_eq_getElem ht)
        rw [this]
        decide)
      go_wp2_with fail
      go_ret
      exact ⟨⟨-1, rfl, by rw [FE.out]; decide⟩, HB.out⟩
set_option maxRecDepth 100000 in
theorem contains_c (w : World) (A : Option Addr) (cap n : Nat) (r : List Msg) (h : MRow w A r) (hn : r.length = n) (hl : n ≤ 100000) (from_ seq : Int) (ga gb : Nat) (ha : w.cell? ⟨ga, 0, none⟩ = some (.int .i64 from_)) (hb : w.cell? ⟨gb, 0, none⟩ = some (.int .i64 seq)) (hga : ga < w.heap.size) (hgb : gb < w.heap.size) :
    Calls Try.prog 66 #[.slice A n cap, .func (.func 65) #[] #[.pointer (some ⟨ga, 0, none⟩), .pointer (some ⟨gb, 0, none⟩)]] w fun e w' => e = .returned (.bool (hasB r from_ seq)) ∧ Below w.heap.size w w' := by
  have IC := hide (index_c w A cap n r h hn hl from_ seq ga gb ha hb hga hgb)
  clear h hn ha hb hga hgb
  go_enter Try.func66, Try.ntmps66
  go_wp2_with fail
  refine IC.out.mono ?_
  rintro e w1 ⟨⟨i, rfl, hi⟩, hb1⟩
  have HI := hide hi
  clear hi
  go_wp2_with fail
  go_ret
  exact ⟨by rw [← HI.out]; rfl, hb1⟩
end Po
end Go.Proofs.Ytonmojinijpneaa
