/- The contract of the chapter's Merge. -/
import Derived.Test.YtjmidldmhmhbnaaClockH
namespace Go.Proofs.Ytjmidldmhmhbnaa
open Go.RowKit Go.Shelf
set_option linter.unusedVariables false
set_option linter.unusedSimpArgs false

theorem merge_yes {l m : List Int} (h : may2B l m = true) : mergeL l m = mx (upto (pr l m) l.length) ∧ mergeE l m = 0 := by simp [mergeL, mergeE, h]
theorem merge_no {l m : List Int} (h : may2B l m = false) : mergeL l m = [] ∧ mergeE l m = 2 := by simp [mergeL, mergeE, h]
theorem mx_upto_succ (l m : List Int) (k : Nat) : mx (upto (pr l m) (k + 1)) = mx (upto (pr l m) k) ++ [max (l.getD k 0) (m.getD k 0)] := by
  rw [upto_succ, mx_snoc]; rfl
theorem mx_upto_len (l m : List Int) (k : Nat) : (mx (upto (pr l m) k)).length = k := by rw [mx_length, upto_length]

theorem ownsRow_drewN {w : World} {B : Nat} {e : TypeId} {size n : Nat} {v : Value} {xs : List Value} (h : w.ownsRow B e size v n xs) (q : Nat) : (w.drewN q).ownsRow B e size v n xs := h
theorem below_append {B : Nat} {w wr w1 : World} {e : TypeId} {size n : Nat} {v : Value} {xs : List Value} {o : Obj} (hb : Below B w wr) (hBs : B ≤ wr.heap.size) (hown : wr.ownsRow B e size v n xs) (hg : (wr.alloc o).grownBy w1 v.ownBlock) : Below B w w1 := by
  refine (hb.alloc hBs o).grown hg (by simp; omega) (fun k ek => ?_)
  rcases hown.2 with ⟨rfl, _⟩ | ⟨g, cap, cur, rfl, hge, _⟩
  · simp [Value.ownBlock] at ek
  · obtain rfl : g = k := by simpa [Value.ownBlock] using ek
    exact hge
theorem own_form' {w : World} {B n : Nat} {v : Value} {l : List Int} (hn : l.length = n) (h : w.ownsRow B 3 1 v n (ints l)) : ∃ A cap, v = .slice A n cap ∧ Owned w B A cap l := by
  subst hn
  exact own_form h
set_option maxRecDepth 100000 in
set_option maxHeartbeats 2000000 in
theorem merge_b (A A' : Option Addr) (l m : List Int) (cap cap' : Nat) (w : World) (hr : Rd w w.heap.size A l) (hr' : Rd w w.heap.size A' m) (hm : l.length ≤ maxLen) (hm' : m.length ≤ maxLen) :
    Calls Try.prog 22 #[.slice A l.length cap, .slice A' m.length cap'] w fun e w' =>
      ∃ A2 cap2, e = .returned (.tuple #[.slice A2 (mergeL l m).length cap2, .int .i64 (mergeE l m)]) ∧ Owned w' w.heap.size A2 cap2 (mergeL l m) ∧ Below w.heap.size w w' := by
  have Hr := hide hr
  have Hr' := hide hr'
  clear hr hr'
  by_cases h1 : mayB l = true
  · by_cases h2 : mayB m = true
    · by_cases hl : l.length = m.length
      · have hok : may2B l m = true := by simp [may2B, h1, h2, hl]
        have hlb : ((l.length : Int) != (m.length : Int)) = false := by simp [hl]
        have h64 := (mayB_len h1).2
        obtain ⟨hL, hE⟩ := merge_yes hok
        rw [hL, hE]
        obtain ⟨i0, hi0, hz0, hz1, hz2⟩ := info_parts int_info
        have H1 := hide h1
        have H2 := hide h2
        have Hl := hide hl
        clear hL hE hok h1 h2 hl
        go_enter Try.func22, Try.ntmps22
        go_wp2_with fail
        refine (may_b _ _ _ _ _ Hr.out hm).mono ?_
        rw [H1.out]
        rintro e w' ⟨rfl, rfl⟩
        go_wp2_with fail
        refine (may_b _ _ _ _ _ Hr'.out hm').mono ?_
        rw [H2.out]
        rintro e w' ⟨rfl, rfl⟩
        go_wp2_with fail
        go_loopw [6, 7] (fun s i wr => ∃ k : Nat, k ≤ l.length ∧ i = .int .i64 k ∧ wr.ownsRow w.heap.size 3 1 s k (ints (mx (upto (pr l m) k))) ∧ Below w.heap.size w wr) (fun _ i _ => l.length - (intOf i).toNat)
        case atStart => exact ⟨0, Nat.zero_le _, rfl, ⟨by simp [ints, mx, upto], .inl ⟨rfl, rfl⟩⟩, Below.refl _ _⟩
        case round =>
          obtain ⟨k, hk, rfl, hown, hb⟩ := hrel
          by_cases hlt : k < l.length
          · have hlt' : k < m.length := by have := Hl.out; omega
            have hs := hb.size
            obtain ⟨ad, rfl, hb0, hc⟩ := rd_at (Hr.out.below hb) hlt
            obtain ⟨ad', rfl, hb0', hc'⟩ := rd_at (Hr'.out.below hb) hlt'
            have Hx := hide (mx_upto_succ l m k)
            generalize l.getD k 0 = x at *
            generalize m.getD k 0 = y at *
            have hkm : k + 1 ≤ maxLen := by unfold maxLen; omega
            by_cases hxy : y < x
            · have hone : ∀ u ∈ [Value.int .i64 x], u.oneCell' = true := by simp [Value.oneCell']
              go_wp2
              go_quiet (fail)
              go_wp2_with (at_builtin; refine wpList_append_own _ rfl (.tmp 38) (.tmp 43) 22 rfl w.heap.size 3 i0 (.int .i64 0) 1 8 Try.underlying22 hi0 hz0 hz1 hz2 rfl (by decide) _ _ _ rfl ((ownsRow_drewN hown _).alloc _) ⟨wr.heap.size, 0, none⟩ 1 1 [.int .i64 x] rfl rfl (cell_one_new _ _ _) hone hkm (by omega) (by simp; omega) ?_; intro v' w1 hown' hgrow _)
              go_roundw
              case rel => exact ⟨k + 1, by omega, by go_num, by rw [Hx.out, show max x y = x by omega]; simpa [ints] using hown', below_append (below_drewN hb _) hs (ownsRow_drewN hown _) hgrow⟩
              case measure => simp [intOf]; omega
            · have hyx : x ≤ y := by omega
              have hone : ∀ u ∈ [Value.int .i64 y], u.oneCell' = true := by simp [Value.oneCell']
              go_wp2
              go_quiet (fail)
              go_wp2_with (at_builtin; refine wpList_append_own _ rfl (.tmp 45) (.tmp 50) 22 rfl w.heap.size 3 i0 (.int .i64 0) 1 8 Try.underlying22 hi0 hz0 hz1 hz2 rfl (by decide) _ _ _ rfl ((ownsRow_drewN hown _).alloc _) ⟨wr.heap.size, 0, none⟩ 1 1 [.int .i64 y] rfl rfl (cell_one_new _ _ _) hone hkm (by omega) (by simp; omega) ?_; intro v' w1 hown' hgrow _)
              go_roundw
              case rel => exact ⟨k + 1, by omega, by go_num, by rw [Hx.out, show max x y = y by omega]; simpa [ints] using hown', below_append (below_drewN hb _) hs (ownsRow_drewN hown _) hgrow⟩
              case measure => simp [intOf]; omega
          · obtain rfl : k = l.length := by omega
            clear hlt
            go_wp2
            go_ret2
            obtain ⟨A2, cap2, rfl, ho⟩ := own_form' (mx_upto_len l m l.length) hown
            exact ⟨A2, cap2, by rw [mx_upto_len]; rfl, ho, hb⟩
      · have hok : may2B l m = false := by simp [may2B, hl]
        have hlb : ((l.length : Int) != (m.length : Int)) = true := by rw [bne_iff_ne]; omega
        obtain ⟨hL, hE⟩ := merge_no hok
        rw [hL, hE]
        have H1 := hide h1
        have H2 := hide h2
        clear h1 h2 hok hl hL hE
        go_enter Try.func22, Try.ntmps22
        go_wp2_with fail
        refine (may_b _ _ _ _ _ Hr.out hm).mono ?_
        rw [H1.out]
        rintro e w' ⟨rfl, rfl⟩
        go_wp2_with fail
        refine (may_b _ _ _ _ _ Hr'.out hm').mono ?_
        rw [H2.out]
        rintro e w' ⟨rfl, rfl⟩
        go_wp2
        go_ret2
        exact ⟨_, _, rfl, Owned.nil _ _, Below.refl _ _⟩
    · have hok : may2B l m = false := by simp [may2B, show mayB m = false by simpa using h2]
      obtain ⟨hL, hE⟩ := merge_no hok
      rw [hL, hE]
      have H1 := hide h1
      have H2 := hide (show mayB m = false by simpa using h2)
      clear h1 h2 hok hL hE
      go_enter Try.func22, Try.ntmps22
      go_wp2_with fail
      refine (may_b _ _ _ _ _ Hr.out hm).mono ?_
      rw [H1.out]
      rintro e w' ⟨rfl, rfl⟩
      go_wp2_with fail
      refine (may_b _ _ _ _ _ Hr'.out hm').mono ?_
      rw [H2.out]
      rintro e w' ⟨rfl, rfl⟩
      go_wp2
      go_ret2
      exact ⟨_, _, rfl, Owned.nil _ _, Below.refl _ _⟩
  · have hok : may2B l m = false := by simp [may2B, show mayB l = false by simpa using h1]
    obtain ⟨hL, hE⟩ := merge_no hok
    rw [hL, hE]
    have H1 := hide (show mayB l = false by simpa using h1)
    clear h1 hok hL hE
    go_enter Try.func22, Try.ntmps22
    go_wp2_with fail
    refine (may_b _ _ _ _ _ Hr.out hm).mono ?_
    rw [H1.out]
    rintro e w' ⟨rfl, rfl⟩
    go_wp2
    go_ret2
    exact ⟨_, _, rfl, Owned.nil _ _, Below.refl _ _⟩
end Go.Proofs.Ytjmidldmhmhbnaa
