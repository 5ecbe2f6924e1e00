/- May, Probe, Match of no queue. -/
import Derived.Test.YtonmojinijpneaaRows
import Derived.Test.YtonmojinijpneaaPoG
namespace Go.Proofs.Ytonmojinijpneaa
open Go Go.Joins Go.ChangeShapes Go.WideShapes Go.RowKit Go.Deep Go.Lib
set_option linter.unusedVariables false
set_option linter.unusedSimpArgs false
namespace Po
instance (w : World) : Nonempty (BelowOf w) := ⟨⟨w, Below.refl _ _⟩⟩
set_option maxRecDepth 100000 in
theorem index_no (F : Value) (w : World) : Calls Try.prog 87 #[.slice none 0 0, F] w fun e w' => e = .returned (.int .i64 (-1)) ∧ w = w' := by
  go_enter Try.func87, Try.ntmps87
  go_wp2_with fail
  go_loopw [5, 8] (fun v5 v8 wr => v8 = .int .i64 0 ∧ wr = w) (fun _ _ _ => 0)
  case atStart => exact ⟨rfl, rfl⟩
  case round =>
    obtain ⟨rfl, rfl⟩ := hrel
    go_wp2
    go_ret
    exact ⟨rfl, rfl⟩
set_option maxRecDepth 100000 in
theorem contains_no (F : Value) (w : World) : Calls Try.prog 66 #[.slice none 0 0, F] w fun e w' => e = .returned (.bool false) ∧ w = w' := by
  go_enter Try.func66, Try.ntmps66
  go_wp2_with (go_at_call 87; refine (index_no _ _).mono ?_; rintro e w' ⟨rfl, rfl⟩)
  go_ret
  exact ⟨rfl, rfl⟩
set_option maxRecDepth 100000 in
set_option maxHeartbeats 4000000 in
theorem may_nq {w : World} {p : Nat} {L : Nat → Option Addr × Nat} {ls : Nat → List Rc} (h : PSt w p L ls) (hlen : ∀ k, k < 64 → (ls k).length ≤ 1000) (rk ca : Int) :
    Calls Try.prog 23 #[.pointer (some ⟨p, 0, none⟩), .pointer none, .int .i64 rk, .int .i64 ca] w fun e w' => e = .returned (.slice none 0 0) ∧ Below w.heap.size w w' := by
  by_cases hrk : 0 ≤ rk ∧ rk < 64
  rotate_left
  · have PC := hide (place_out w p L ls h rk (by omega) ca)
    clear h
    go_enter Try.func23, Try.ntmps23
    go_wp2_with (go_at_call 46; refine PC.out.mono ?_; rintro e w' ⟨rfl, rfl⟩)
    go_ret
    exact ⟨rfl, Below.refl _ _⟩
  obtain ⟨k, rfl⟩ : ∃ k : Nat, rk = k := ⟨rk.toNat, by omega⟩
  have hk : k < 64 := by omega
  have PC := hide (place_in w p L ls h k hk (by have := hlen k hk; omega) ca)
  have HQ := hide h
  have HL := hide (hlen k hk)
  have hk0 : ¬ (k : Int) < 0 := by omega
  have hk2 : (k : Int) < 64 := by omega
  clear h hlen hrk
  go_enter Try.func23, Try.ntmps23
  go_upto_region 2 with (go_at_call 46; refine PC.out.mono ?_; rintro e w1 ⟨i, b, rfl, hf, hb⟩)
  cases b with
  | false =>
    have HB := hide hb
    clear hf hb PC
    go_wp2_with fail
    go_ret
    exact ⟨rfl, HB.out⟩
  | true =>
    obtain ⟨m, hm, _⟩ := hf.2.1 rfl
    obtain ⟨n, hn⟩ : ∃ n, (ls k).length = n := ⟨_, rfl⟩
    have hin : i < n := by rw [← hn]; exact (List.getElem?_eq_some_iff.1 hm).1
    have P1 := HQ.out.below hb
    obtain ⟨g, hA, hg, hit⟩ := (P1.rrow k hk).it i m hm
    obtain ⟨cap, hcap⟩ : ∃ c, (L k).2 = c := ⟨_, rfl⟩
    have hc : w1.cell? ⟨p, 1 + k, none⟩ = some (.slice (some ⟨g, 0, none⟩) n cap) := by rw [← hA, ← hcap, ← hn]; exact P1.at_ k hk
    have hnc : n ≤ cap := by
      have h := P1.row k hk
      unfold slR at h
      rw [hn, hcap] at h
      obtain ⟨_, _, _, _, _, _, h2, _⟩ := own_cell h (by omega)
      exact h2
    have pc : ∀ q : BelowOf w1, q.world.cell? ⟨p, 1 + k, none⟩ = some (.slice (some ⟨g, 0, none⟩) n cap) := fun q => q.cell P1.blk.lt hc
    have hi0 : (i : Int) < (n : Int) := by omega
    have hi1 : (i : Int) ≤ (cap : Int) := by omega
    obtain ⟨mk, mr, mc, mp, mt, mq, md, mf, ms⟩ := m
    have c6 : w1.cell? ⟨g, i * 9 + 6, none⟩ = some (.bool md) := hit 6 _ rfl
    have HB := hide hb
    clear hf hb PC hm hn P1 hA hcap hnc
    cases md with
    | true =>
      clear pc hit
      go_wp2_with fail
      go_ret
      exact ⟨rfl, HB.out⟩
    | false =>
      have n0 : ∀ p : BelowOf w1, p.world.cell? ⟨g, i * 9, none⟩ = some (.string mk) := fun p => p.cell hg (hit 0 _ rfl)
      have n1 : ∀ p : BelowOf w1, p.world.cell? ⟨g, i * 9 + 1, none⟩ = some (.int .i64 mr) := fun p => p.cell hg (hit 1 _ rfl)
      have n2 : ∀ p : BelowOf w1, p.world.cell? ⟨g, i * 9 + 2, none⟩ = some (.int .i64 mc) := fun p => p.cell hg (hit 2 _ rfl)
      have n3 : ∀ p : BelowOf w1, p.world.cell? ⟨g, i * 9 + 3, none⟩ = some (.int .i64 mp) := fun p => p.cell hg (hit 3 _ rfl)
      have n4 : ∀ p : BelowOf w1, p.world.cell? ⟨g, i * 9 + 4, none⟩ = some (.int .i64 mt) := fun p => p.cell hg (hit 4 _ rfl)
      have n5 : ∀ p : BelowOf w1, p.world.cell? ⟨g, i * 9 + 5, none⟩ = some (.int .i64 mq) := fun p => p.cell hg (hit 5 _ rfl)
      have n6 : ∀ p : BelowOf w1, p.world.cell? ⟨g, i * 9 + 6, none⟩ = some (.bool false) := fun p => p.cell hg (hit 6 _ rfl)
      have n7 : ∀ p : BelowOf w1, p.world.cell? ⟨g, i * 9 + 7, none⟩ = some (.int .i64 mf) := fun p => p.cell hg (hit 7 _ rfl)
      have n8 : ∀ p : BelowOf w1, p.world.cell? ⟨g, i * 9 + 8, none⟩ = some (.int .i64 ms) := fun p => p.cell hg (hit 8 _ rfl)
      clear hit
      go_upto_region 4 with (fail)
      clear hc c6
      refine wp_region_quiet_below (by kernel_rfl) (by kernel_rfl) ?_
      repeat (go_big_quiet_step (first
        | (go_at_call 58; refine calls_below (free_nq _ _ _ _ _ _ _ _ _ _ _))))
      refine wpQuiet_nil ?_
      rintro Wq ⟨⟨_, hq⟩, rfl⟩
      go_wp2_with fail
      go_ret
      exact ⟨rfl, HB.out.trans (hq.mono HB.out.size)⟩
set_option maxRecDepth 100000 in
set_option maxHeartbeats 4000000 in
theorem probe_nq {w : World} {p : Nat} {L : Nat → Option Addr × Nat} {ls : Nat → List Rc} (h : PSt w p L ls) (key : ByteArray) (rk ca pe tg rq : Int) (dn : Bool) (fr sq : Int) :
    Calls Try.prog 25 #[.pointer (some ⟨p, 0, none⟩), .pointer none, .agg #[.string key, .int .i64 rk, .int .i64 ca, .int .i64 pe, .int .i64 tg, .int .i64 rq, .bool dn, .int .i64 fr, .int .i64 sq]] w fun e w' => e = .returned (.slice none 0 0) ∧ Below w.heap.size w w' := by
  have b1 := (Below.refl w.heap.size w).alloc (Nat.le_refl _) (.cells #[.string key, .int .i64 rk, .int .i64 ca, .int .i64 pe, .int .i64 tg, .int .i64 rq, .bool dn, .int .i64 fr, .int .i64 sq] 35)
  have kx := Blk.new w 35 #[.string key, .int .i64 rk, .int .i64 ca, .int .i64 pe, .int .i64 tg, .int .i64 rq, .bool dn, .int .i64 fr, .int .i64 sq]
  obtain ⟨w1, hw1⟩ : ∃ z, w.alloc (.cells #[.string key, .int .i64 rk, .int .i64 ca, .int .i64 pe, .int .i64 tg, .int .i64 rq, .bool dn, .int .i64 fr, .int .i64 sq] 35) = z := ⟨_, rfl⟩
  obtain ⟨X, hX⟩ : ∃ z, w.heap.size = z := ⟨_, rfl⟩
  rw [hw1] at b1 kx
  rw [hX] at kx
  have P1 := hide (h.below b1)
  have B1 := hide b1
  have HW1 := hide hw1
  have HX := hide hX
  have OC : ∃ S : Value, Hid (∀ q : BelowOf w1, Calls Try.prog 48 #[.pointer (some ⟨p, 0, none⟩), .int .i64 rk] q.world fun e w' => e = .returned S ∧ q.world = w') := by
    by_cases hrk : 0 ≤ rk ∧ rk < 64
    · obtain ⟨k, rfl⟩ : ∃ k : Nat, rk = k := ⟨rk.toNat, by omega⟩
      exact ⟨_, hide fun q => of_in q.world p L ls (P1.out.below q.below) k (by omega)⟩
    · exact ⟨_, hide fun q => of_out q.world p L ls (P1.out.below q.below) rk (by omega)⟩
  obtain ⟨S, OC⟩ := OC
  have x0 : ∀ q : BelowOf w1, q.world.cell? ⟨X, 0, none⟩ = some (.string key) := fun q => q.cell kx.lt (kx.cell 0)
  have x1 : ∀ q : BelowOf w1, q.world.cell? ⟨X, 1, none⟩ = some (.int .i64 rk) := fun q => q.cell kx.lt (kx.cell 1)
  have x2 : ∀ q : BelowOf w1, q.world.cell? ⟨X, 2, none⟩ = some (.int .i64 ca) := fun q => q.cell kx.lt (kx.cell 2)
  have x3 : ∀ q : BelowOf w1, q.world.cell? ⟨X, 3, none⟩ = some (.int .i64 pe) := fun q => q.cell kx.lt (kx.cell 3)
  have x4 : ∀ q : BelowOf w1, q.world.cell? ⟨X, 4, none⟩ = some (.int .i64 tg) := fun q => q.cell kx.lt (kx.cell 4)
  have x5 : ∀ q : BelowOf w1, q.world.cell? ⟨X, 5, none⟩ = some (.int .i64 rq) := fun q => q.cell kx.lt (kx.cell 5)
  have x6 : ∀ q : BelowOf w1, q.world.cell? ⟨X, 6, none⟩ = some (.bool dn) := fun q => q.cell kx.lt (kx.cell 6)
  have x7 : ∀ q : BelowOf w1, q.world.cell? ⟨X, 7, none⟩ = some (.int .i64 fr) := fun q => q.cell kx.lt (kx.cell 7)
  have x8 : ∀ q : BelowOf w1, q.world.cell? ⟨X, 8, none⟩ = some (.int .i64 sq) := fun q => q.cell kx.lt (kx.cell 8)
  have KX := hide kx
  clear b1 kx hw1 hX h
  go_enter Try.func25, Try.ntmps25
  go_upto_region 1 with (fail)
  rw [HW1.out, HX.out]
  go_upto_region 3 with (go_at_call 60; refine (made_yes _ _ _ _ P1.out).mono ?_; rintro e w' ⟨rfl, rfl⟩)
  refine wp_region_quiet_below (by kernel_rfl) (by kernel_rfl) ?_
  repeat (go_big_quiet_step (first
    | (go_at_call 48; refine calls_below_same (OC.out _))
    | (go_at_call 58; refine calls_below (free_nq _ _ _ _ _ _ _ _ _ _ _))))
  refine wpQuiet_nil ?_
  rintro Wq ⟨⟨_, hq⟩, rfl⟩
  go_wp2_with fail
  go_ret
  exact ⟨rfl, B1.out.trans (hq.mono B1.out.size)⟩
set_option maxRecDepth 100000 in
set_option maxHeartbeats 4000000 in
theorem match_nq {w : World} {p : Nat} {L : Nat → Option Addr × Nat} {ls : Nat → List Rc} (h : PSt w p L ls) (hlen : ∀ k, k < 64 → (ls k).length ≤ 1000) (rk ca fr sq : Int) :
    Calls Try.prog 30 #[.pointer (some ⟨p, 0, none⟩), .pointer none, .int .i64 rk, .int .i64 ca, .int .i64 fr, .int .i64 sq] w fun e w' => e = .returned (.int .i64 2) ∧ Below w.heap.size w w' := by
  have b1 := ((Below.refl w.heap.size w).alloc (Nat.le_refl _) (.cells #[.int .i64 fr] 3)).alloc (by simp) (.cells #[.int .i64 sq] 3)
  obtain ⟨w1, hw1⟩ : ∃ z, (w.alloc (.cells #[.int .i64 fr] 3)).alloc (.cells #[.int .i64 sq] 3) = z := ⟨_, rfl⟩
  rw [hw1] at b1
  have P1 := hide (h.below b1)
  have B1 := hide b1
  have HW1 := hide hw1
  have MC := hide (may_nq P1.out hlen rk ca)
  clear b1 hw1 h hlen
  go_enter Try.func30, Try.ntmps30
  go_upto_region 1 with (fail)
  rw [HW1.out]
  go_wp2_with (first
    | (go_at_call 60; refine (made_yes _ _ _ _ P1.out).mono ?_; rintro e w' ⟨rfl, rfl⟩)
    | (go_at_call 23; refine MC.out.mono ?_; rintro e w2 ⟨rfl, hb2⟩)
    | (go_at_call 66; refine (contains_no _ _).mono ?_; rintro e w' ⟨rfl, rfl⟩))
  go_ret
  exact ⟨rfl, B1.out.trans (hb2.mono B1.out.size)⟩
end Po
end Go.Proofs.Ytonmojinijpneaa
