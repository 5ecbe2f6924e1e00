/- The document's First. -/
import Derived.Test.YtflaikhkddjfjaaRows
import Derived.Test.YtflaikhkddjfjaaOrdAd
import Derived.LoopN
namespace Go.Proofs.Ytflaikhkddjfjaa
open Go Go.RowKit
set_option linter.unusedVariables false
set_option linter.unusedSimpArgs false
namespace Ord
noncomputable def fnd2 (E : Nat → Ev) (len : Nat) (f : Nat → Bool) (l : List Int) (t : Nat) : Int := fndI (fun k => hitB E len f (l.getD k 0)) (fun k => l.getD k 0) t
noncomputable def fnd3 (E : Nat → Ev) (len : Nat) (f : Nat → Bool) (l : List Int) (i : Nat) : Int := if 0 ≤ fnd2 E len f l l.length then fnd2 E len f l l.length else fndI (rdyB E len f) (fun i => (i : Int)) i
theorem fnd3_full (E : Nat → Ev) (len : Nat) (f : Nat → Bool) (l : List Int) : fnd3 E len f l len = nxtR E len f l := rfl
theorem fnd2_neg {E : Nat → Ev} {len : Nat} {f : Nat → Bool} {l : List Int} {t : Nat} (h : ¬ 0 ≤ fnd2 E len f l t) : fnd2 E len f l t = -1 := by
  have := fndI_ge (h := fun k => hitB E len f (l.getD k 0)) (v := fun k => l.getD k 0) (fun k hk => hit_ge k hk) t
  unfold fnd2 at h ⊢
  omega
theorem fnd2_next {E : Nat → Ev} {len : Nat} {f : Nat → Bool} {l : List Int} {t : Nat} (h : ¬ 0 ≤ fnd2 E len f l t) : fnd2 E len f l (t + 1) = if hitB E len f (l.getD t 0) = true then l.getD t 0 else -1 := by
  unfold fnd2 at h ⊢
  rw [fndI, if_neg h]
theorem fnd2_stay {E : Nat → Ev} {len : Nat} {f : Nat → Bool} {l : List Int} {t : Nat} (h : 0 ≤ fnd2 E len f l t) (ht : t ≤ l.length) : fnd2 E len f l l.length = fnd2 E len f l t := fndI_stay h _ ht
theorem fnd3_zero (E : Nat → Ev) (len : Nat) (f : Nat → Bool) (l : List Int) : fnd3 E len f l 0 = fnd2 E len f l l.length := by
  unfold fnd3
  by_cases h : 0 ≤ fnd2 E len f l l.length
  · rw [if_pos h]
  · rw [if_neg h, fnd2_neg h]
    rfl
theorem fnd3_next {E : Nat → Ev} {len : Nat} {f : Nat → Bool} {l : List Int} {i : Nat} (h : ¬ 0 ≤ fnd3 E len f l i) : fnd3 E len f l i = -1 ∧ fnd3 E len f l (i + 1) = if rdyB E len f i = true then (i : Int) else -1 := by
  unfold fnd3 at h ⊢
  by_cases h2 : 0 ≤ fnd2 E len f l l.length
  · rw [if_pos h2] at h
    exact absurd h2 h
  · rw [if_neg h2] at h ⊢
    rw [if_neg h2]
    have := fndI_ge (h := rdyB E len f) (v := fun i => (i : Int)) (fun k _ => Int.natCast_nonneg k) i
    refine ⟨by omega, ?_⟩
    rw [fndI, if_neg h]
theorem fnd3_stay {E : Nat → Ev} {len : Nat} {f : Nat → Bool} {l : List Int} {i : Nat} (h : 0 ≤ fnd3 E len f l i) (hi : i ≤ len) : fnd3 E len f l len = fnd3 E len f l i := by
  unfold fnd3 at h ⊢
  by_cases h2 : 0 ≤ fnd2 E len f l l.length
  · rw [if_pos h2, if_pos h2]
  · rw [if_neg h2] at h ⊢
    rw [if_neg h2]
    exact fndI_stay h _ hi
theorem hit_no {E : Nat → Ev} {len : Nat} {f : Nat → Bool} {x : Int} (h : ¬ (0 ≤ x ∧ x < (len : Int))) : hitB E len f x = false := by
  unfold hitB
  rw [decide_eq_false h, Bool.false_and]
theorem hit_in {E : Nat → Ev} {len : Nat} {f : Nat → Bool} {x : Nat} (h : x < len) : hitB E len f (x : Int) = rdyB E len f x := by
  unfold hitB
  rw [decide_eq_true (by omega), Bool.true_and, Int.toNat_natCast]
set_option maxRecDepth 100000 in
set_option maxHeartbeats 8000000 in
theorem First_r (n o B len cap : Nat) (E : Nat → Ev) (gs : List Nat) (A : Option Addr) (l : List Int) (w : World) (AC : Nat → List Nat) (hf : Rf w o B n len E gs) (hgl : gs.length = len) (hr : Rd w w.heap.size A l) (hl : len ≤ 120) (hm : l.length ≤ 1000) (h0 : AC 0 = []) (hs : ∀ k, k < len → ∃ m : Nat, m < len ∧ nxtR E len (memF (AC k)) l = m ∧ AC (k + 1) = AC k ++ [m]) (hcl : ∀ k, (AC k).length = k) :
    Calls Try.prog 22 #[.pointer (some ⟨o, 0, none⟩), .slice A l.length cap] w fun e w' => ∃ v, e = .returned v ∧ w'.ownsRow w.heap.size 3 1 v len (ints (natI (AC len))) ∧ Below w.heap.size w w' := by
  obtain ⟨R, rc, A2, ac, b, _, _⟩ := hf.tab
  have b1 := b.cell 1
  simp only [List.getElem?_toArray, List.getElem?_cons_succ, List.getElem?_cons_zero] at b1
  rw [hgl] at b1
  have hmk := run_make_row' (P := Try.prog) 41 4 (.bool false) 1 Try.underlying41 bool_info rfl .i64 .i64 len (by omega) (by omega) w
  have br0 := BRow.made w len
  have hb0 := (Below.refl w.heap.size w).alloc (Nat.le_refl _) (.cells (madeCells #[Value.bool false] len) 4)
  obtain ⟨w1, hw1⟩ : ∃ x, w.alloc (.cells (madeCells #[Value.bool false] len) 4) = x := ⟨_, rfl⟩
  rw [hw1] at br0 hb0 hmk
  have BR : Hid (BRow w1 w.heap.size w.heap.size len (memF (AC 0))) := hide (br0.to (fun m _ => by rw [h0]; simp [memF]))
  have HB := hide hb0
  have HA0 := hide h0
  have HF := hide hf
  have HGL := hide hgl
  have HR := hide hr
  have HS := hide hs
  have HCL := hide hcl
  clear hf hgl hr b br0 hb0 h0 hs hcl
  go_enter Try.func22, Try.ntmps22
  go_wp2_with fail
  clear b1 hmk hw1
  go_loopw [6] (fun vo wr => ∃ (k : Nat) (A9 : Option Addr) (c9 : Nat), k ≤ len ∧ vo = .slice A9 k c9 ∧ Hid (BRow wr w.heap.size w.heap.size len (memF (AC k))) ∧ Hid (wr.ownsRow w.heap.size 3 1 (.slice A9 k c9) k (ints (natI (AC k)))) ∧ Hid (Below w.heap.size w wr)) (fun vo _ => len - slen vo)
  case atStart => exact ⟨0, none, 0, by omega, rfl, BR, hide (by rw [HA0.out]; exact ⟨rfl, .inl ⟨rfl, rfl⟩⟩), HB⟩
  case round =>
    clear BR HB
    obtain ⟨k, A9, c9, hk, rfl, BR, OW, HB⟩ := hrel
    rename World => W1
    by_cases hlt : k < len
    rotate_left
    · have hltI : ¬ (k : Int) < (len : Int) := by omega
      have hke : k = len := by omega
      rw [hke] at OW
      rw [hke]
      clear hke hlt hltI hk
      go_wp2_with fail
      go_ret
      exact ⟨_, rfl, OW.out, HB.out⟩
    have hltI : (k : Int) < (len : Int) := by omega
    obtain ⟨m, hml, hnx, hac⟩ := HS.out k hlt
    have hmI : (m : Int) < (len : Int) := by omega
    have HNX := hide hnx
    have RF1 := HF.out.below HB.out
    have RY := hide (fun (i : Nat) (hi : i < len) => ready_r n o B w.heap.size w.heap.size i len E (memF (AC k)) gs W1 RF1 HGL.out BR.out hi hl)
    -- what lies there, once the next one is in
    obtain ⟨csb, _, blkb, _⟩ := BR.out
    have kk := keeps_set (p := ⟨w.heap.size, m, none⟩) blkb (.bool true)
    have BR2 := (BR.out.set_ m true).to (f' := memF (AC (k + 1))) (fun j _ => by
      rw [hac]
      unfold memF
      by_cases e : j = m
      · subst e; simp
      · simp [e])
    have OW2 := KeepsBut.own kk OW.out (by decide)
    have HB2 := HB.out.setCell (p := ⟨w.heap.size, m, none⟩) (Nat.le_refl _) (.bool true)
    obtain ⟨A1, c1, w3, hrun, hown, hb3, hk3, _⟩ := push_int (W1.setCell ⟨w.heap.size, m, none⟩ (.bool true)) w.heap.size A9 c9 k (natI (AC k)) (m : Int) (by rw [natI_len, HCL.out]) OW2 HB2.size (by omega)
    rw [show (W1.setCell ⟨w.heap.size, m, none⟩ (.bool true)).heap.size = W1.heap.size by simp [World.setCell]] at hrun
    have HRUN := hide hrun
    have BR3 := hide (BR2.keeps hk3 (by decide))
    have OW3 : Hid (w3.ownsRow w.heap.size 3 1 (.slice A1 (k + 1) c1) (k + 1) (ints (natI (AC (k + 1))))) := hide (by rw [hac, natI_app]; exact hown)
    have HB3 := hide (HB2.trans hb3)
    have QC := hide (BR.out.cell hml)
    have QF := hide (BR.out.frozen m)
    have HR1 := hide (rd_on HR.out HB.out)
    clear hnx hac RF1 blkb kk BR2 OW2 HB2 hrun hown hb3 hk3 BR
    generalize memF (AC k) = f at *
    go_wp2_with fail
    go_loopw [7, 8] (fun vn vt wr => ∃ t : Nat, t ≤ l.length ∧ vt = .int .i64 t ∧ vn = .int .i64 (fnd2 E len f l t) ∧ wr = W1) (fun _ vt _ => l.length - (intOf vt).toNat)
    case atStart => exact ⟨0, by omega, rfl, rfl, rfl⟩
    case round =>
      obtain ⟨t, ht, rfl, rfl, rfl⟩ := hrel
      rename World => W1
      by_cases htl : t < l.length
      rotate_left
      · have htlI : ¬ (t : Int) < (l.length : Int) := by omega
        have hte : t = l.length := by omega
        rw [hte]
        clear hte htl htlI ht
        have htlI : ¬ (l.length : Int) < (l.length : Int) := by omega
        generalize hz : fnd2 E len f l l.length = z
        go_wp2_with fail
        subst hz
        go_loopw [7, 9] (fun vn vi wr => ∃ i : Nat, i ≤ len ∧ vi = .int .i64 i ∧ vn = .int .i64 (fnd3 E len f l i) ∧ wr = W1) (fun _ vi _ => len - (intOf vi).toNat)
        case atStart => exact ⟨0, by omega, rfl, by rw [fnd3_zero], rfl⟩
        case round =>
          obtain ⟨i, hi, rfl, rfl, rfl⟩ := hrel
          rename World => W1
          by_cases hil : i < len
          rotate_left
          · have hilI : ¬ (i : Int) < (len : Int) := by omega
            have hie : i = len := by omega
            have hnx : fnd3 E len f l i = (m : Int) := by rw [hie, fnd3_full]; exact HNX.out
            rw [hnx]
            clear hnx hie
            have hrun := HRUN.out
            have qc := QC.out
            have qf := QF.out
            go_wp2_with (at_builtin; refine Lib.wpList_append_run _ rfl (.tmp 76) (.tmp 78) _ _ rfl _ _ rfl rfl _ w3 hrun ?_)
            go_roundw
            case rel => exact ⟨k + 1, A1, c1, by omega, rfl, BR3, OW3, HB3⟩
            case measure =>
              show len - (k + 1) < len - k
              omega
          have hilI : (i : Int) < (len : Int) := by omega
          by_cases h3 : 0 ≤ fnd3 E len f l i
          · have hnx : fnd3 E len f l i = (m : Int) := by rw [← fnd3_stay h3 hi, fnd3_full]; exact HNX.out
            rw [hnx]
            clear hnx h3
            have hm0 : ¬ (m : Int) < 0 := by omega
            have hrun := HRUN.out
            have qc := QC.out
            have qf := QF.out
            go_wp2_with (at_builtin; refine Lib.wpList_append_run _ rfl (.tmp 76) (.tmp 78) _ _ rfl _ _ rfl rfl _ w3 hrun ?_)
            go_roundw
            case rel => exact ⟨k + 1, A1, c1, by omega, rfl, BR3, OW3, HB3⟩
            case measure =>
              show len - (k + 1) < len - k
              omega
          obtain ⟨e1, e2⟩ := fnd3_next h3
          have E2 := hide e2
          rw [e1]
          clear e1 e2 h3
          have RYi := hide (RY.out i hil)
          cases hry : rdyB E len f i with
          | true =>
            rw [hry] at RYi
            have E3 := hide (show fnd3 E len f l (i + 1) = (i : Int) by rw [E2.out, if_pos hry])
            clear hry
            go_wp2_with fail
            refine RYi.out.mono ?_
            rintro e w' ⟨rfl, rfl⟩
            go_wp2_with fail
            go_roundw
            case rel => exact ⟨i + 1, by omega, by go_num, by rw [E3.out], by first | trivial | rfl⟩
            case measure => simp [intOf] <;> omega
          | false =>
            rw [hry] at RYi
            have E3 := hide (show fnd3 E len f l (i + 1) = -1 by rw [E2.out, hry]; rfl)
            clear hry
            go_wp2_with fail
            refine RYi.out.mono ?_
            rintro e w' ⟨rfl, rfl⟩
            go_wp2_with fail
            go_roundw
            case rel => exact ⟨i + 1, by omega, by go_num, by rw [E3.out], by first | trivial | rfl⟩
            case measure => simp [intOf] <;> omega
      have htlI : (t : Int) < (l.length : Int) := by omega
      by_cases h2 : 0 ≤ fnd2 E len f l t
      · have hst := fnd2_stay h2 ht
        rw [← hst]
        have hz0 : ¬ fnd2 E len f l l.length < 0 := by rw [hst]; omega
        clear hst h2
        generalize hz : fnd2 E len f l l.length = z at hz0 ⊢
        go_wp2_with fail
        clear hz0
        subst hz
        go_loopw [7, 9] (fun vn vi wr => ∃ i : Nat, i ≤ len ∧ vi = .int .i64 i ∧ vn = .int .i64 (fnd3 E len f l i) ∧ wr = W1) (fun _ vi _ => len - (intOf vi).toNat)
        case atStart => exact ⟨0, by omega, rfl, by rw [fnd3_zero], rfl⟩
        case round =>
          obtain ⟨i, hi, rfl, rfl, rfl⟩ := hrel
          rename World => W1
          by_cases hil : i < len
          rotate_left
          · have hilI : ¬ (i : Int) < (len : Int) := by omega
            have hie : i = len := by omega
            have hnx : fnd3 E len f l i = (m : Int) := by rw [hie, fnd3_full]; exact HNX.out
            rw [hnx]
            clear hnx hie
            have hrun := HRUN.out
            have qc := QC.out
            have qf := QF.out
            go_wp2_with (at_builtin; refine Lib.wpList_append_run _ rfl (.tmp 76) (.tmp 78) _ _ rfl _ _ rfl rfl _ w3 hrun ?_)
            go_roundw
            case rel => exact ⟨k + 1, A1, c1, by omega, rfl, BR3, OW3, HB3⟩
            case measure =>
              show len - (k + 1) < len - k
              omega
          have hilI : (i : Int) < (len : Int) := by omega
          by_cases h3 : 0 ≤ fnd3 E len f l i
          · have hnx : fnd3 E len f l i = (m : Int) := by rw [← fnd3_stay h3 hi, fnd3_full]; exact HNX.out
            rw [hnx]
            clear hnx h3
            have hm0 : ¬ (m : Int) < 0 := by omega
            have hrun := HRUN.out
            have qc := QC.out
            have qf := QF.out
            go_wp2_with (at_builtin; refine Lib.wpList_append_run _ rfl (.tmp 76) (.tmp 78) _ _ rfl _ _ rfl rfl _ w3 hrun ?_)
            go_roundw
            case rel => exact ⟨k + 1, A1, c1, by omega, rfl, BR3, OW3, HB3⟩
            case measure =>
              show len - (k + 1) < len - k
              omega
          obtain ⟨e1, e2⟩ := fnd3_next h3
          have E2 := hide e2
          rw [e1]
          clear e1 e2 h3
          have RYi := hide (RY.out i hil)
          cases hry : rdyB E len f i with
          | true =>
            rw [hry] at RYi
            have E3 := hide (show fnd3 E len f l (i + 1) = (i : Int) by rw [E2.out, if_pos hry])
            clear hry
            go_wp2_with fail
            refine RYi.out.mono ?_
            rintro e w' ⟨rfl, rfl⟩
            go_wp2_with fail
            go_roundw
            case rel => exact ⟨i + 1, by omega, by go_num, by rw [E3.out], by first | trivial | rfl⟩
            case measure => simp [intOf] <;> omega
          | false =>
            rw [hry] at RYi
            have E3 := hide (show fnd3 E len f l (i + 1) = -1 by rw [E2.out, hry]; rfl)
            clear hry
            go_wp2_with fail
            refine RYi.out.mono ?_
            rintro e w' ⟨rfl, rfl⟩
            go_wp2_with fail
            go_roundw
            case rel => exact ⟨i + 1, by omega, by go_num, by rw [E3.out], by first | trivial | rfl⟩
            case measure => simp [intOf] <;> omega
      have e1 := fnd2_neg h2
      have E2 := hide (fnd2_next h2)
      rw [e1]
      clear e1 h2
      obtain ⟨ad, hA, hbl, cx⟩ := rd_at HR1.out htl
      subst hA
      obtain ⟨x, hx⟩ : ∃ x, l.getD t 0 = x := ⟨_, rfl⟩
      rw [hx] at cx E2
      clear hx hbl
      by_cases hx0 : x < 0
      · have E3 := hide (show fnd2 E len f l (t + 1) = -1 by rw [E2.out, hit_no (by omega)]; rfl)
        have hx0I : ¬ 0 ≤ x := by omega
        go_wp2_with fail
        go_roundw
        case rel => exact ⟨t + 1, by omega, by go_num, by rw [E3.out], by first | trivial | rfl⟩
        case measure => simp [intOf] <;> omega
      have hx0I : 0 ≤ x := by omega
      by_cases hx1 : x < (len : Int)
      rotate_left
      · have E3 := hide (show fnd2 E len f l (t + 1) = -1 by rw [E2.out, hit_no (by omega)]; rfl)
        go_wp2_with fail
        go_roundw
        case rel => exact ⟨t + 1, by omega, by go_num, by rw [E3.out], by first | trivial | rfl⟩
        case measure => simp [intOf] <;> omega
      obtain ⟨xn, rfl⟩ : ∃ xn : Nat, x = xn := ⟨x.toNat, by omega⟩
      have hxl : xn < len := by omega
      have RYx := hide (RY.out xn hxl)
      rw [hit_in hxl] at E2
      cases hry : rdyB E len f xn with
      | true =>
        rw [hry] at RYx
        have E3 := hide (show fnd2 E len f l (t + 1) = (xn : Int) by rw [E2.out, if_pos hry])
        clear hry
        go_wp2_with fail
        refine RYx.out.mono ?_
        rintro e w' ⟨rfl, rfl⟩
        go_wp2_with fail
        go_roundw
        case rel => exact ⟨t + 1, by omega, by go_num, by rw [E3.out], by first | trivial | rfl⟩
        case measure => simp [intOf] <;> omega
      | false =>
        rw [hry] at RYx
        have E3 := hide (show fnd2 E len f l (t + 1) = -1 by rw [E2.out, hry]; rfl)
        clear hry
        go_wp2_with fail
        refine RYx.out.mono ?_
        rintro e w' ⟨rfl, rfl⟩
        go_wp2_with fail
        go_roundw
        case rel => exact ⟨t + 1, by omega, by go_num, by rw [E3.out], by first | trivial | rfl⟩
        case measure => simp [intOf] <;> omega
end Ord
end Go.Proofs.Ytflaikhkddjfjaa
