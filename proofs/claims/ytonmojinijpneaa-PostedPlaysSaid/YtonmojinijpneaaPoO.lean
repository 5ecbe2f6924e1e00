/- Probe of a queue. -/
import Derived.Test.YtonmojinijpneaaRows
import Derived.Test.YtonmojinijpneaaPoN
namespace Go.Proofs.Ytonmojinijpneaa
open Go Go.Joins Go.ChangeShapes Go.WideShapes Go.RowKit Go.Deep Go.Lib Go.Proofs.Ytonmojinijpneaa.Qu
set_option linter.unusedVariables false
set_option linter.unusedSimpArgs false
namespace Po
/-- The receives of a rank. -/
def rowL (ls : Nat → List Rc) (rk : Int) : List Rc := if 0 ≤ rk ∧ rk < 64 then ls rk.toNat else []
theorem of_c (w : World) (p : Nat) (L : Nat → Option Addr × Nat) (ls : Nat → List Rc) (h : PSt w p L ls) (rk : Int) : ∃ (A : Option Addr) (cap : Nat), RRow w A (rowL ls rk) ∧ Calls Try.prog 48 #[.pointer (some ⟨p, 0, none⟩), .int .i64 rk] w fun e w' => e = .returned (.slice A (rowL ls rk).length cap) ∧ w = w' := by
  unfold rowL
  by_cases hrk : 0 ≤ rk ∧ rk < 64
  · obtain ⟨k, rfl⟩ : ∃ k : Nat, rk = k := ⟨rk.toNat, by omega⟩
    rw [if_pos hrk, Int.toNat_natCast]
    exact ⟨_, _, h.rrow k (by omega), of_in w p L ls h k (by omega)⟩
  · rw [if_neg hrk]
    exact ⟨none, 0, ⟨fun i m hm => by simp at hm⟩, of_out w p L ls h rk (by omega)⟩
theorem rowL_len {ls : Nat → List Rc} (hlen : ∀ k, k < 64 → (ls k).length ≤ 1000) (rk : Int) : (rowL ls rk).length ≤ 1000 := by
  unfold rowL
  split
  · exact hlen _ (by omega)
  · simp
set_option maxRecDepth 100000 in
set_option maxHeartbeats 4000000 in
theorem probe_c {w : World} {p q : Nat} {L : Nat → Option Addr × Nat} {ls : Nat → List Rc} {QL' : QL} {l : List Msg} (h : PSt w p L ls) (hlen : ∀ k, k < 64 → (ls k).length ≤ 1000) (hq : QSt w q QL' l) (hl : l.length ≤ 1000) (key : ByteArray) (rk ca pe tg rq : Int) (dn : Bool) (fr sq : Int) :
    Calls Try.prog 25 #[.pointer (some ⟨p, 0, none⟩), .pointer (some ⟨q, 0, none⟩), .agg #[.string key, .int .i64 rk, .int .i64 ca, .int .i64 pe, .int .i64 tg, .int .i64 rq, .bool dn, .int .i64 fr, .int .i64 sq]] w fun e w' => ∃ A1 c1, e = .returned (.slice A1 (freeL l ⟨key, rk, ca, pe, tg, rq, dn, fr, sq⟩ (rowL ls rk)).length c1) ∧ w'.ownsRow w.heap.size 33 8 (.slice A1 (freeL l ⟨key, rk, ca, pe, tg, rq, dn, fr, sq⟩ (rowL ls rk)).length c1) (freeL l ⟨key, rk, ca, pe, tg, rq, dn, fr, sq⟩ (rowL ls rk)).length (msgCs (freeL l ⟨key, rk, ca, pe, tg, rq, dn, fr, sq⟩ (rowL ls rk))) ∧ Below w.heap.size w w' := by
  have b1 := (Below.refl w.heap.size w).alloc (Nat.le_refl _) (.cells #[.string key, .int .i64 rk, .int .i64 ca, .int .i64 pe, .int .i64 tg, .int .i64 rq, .bool dn, .int .i64 fr, .int .i64 sq] 35)
  have kx := Blk.new w 35 #[.string key, .int .i64 rk, .int .i64 ca, .int .i64 pe, .int .i64 tg, .int .i64 rq, .bool dn, .int .i64 fr, .int .i64 sq]
  obtain ⟨w1, hw1⟩ : ∃ z, w.alloc (.cells #[.string key, .int .i64 rk, .int .i64 ca, .int .i64 pe, .int .i64 tg, .int .i64 rq, .bool dn, .int .i64 fr, .int .i64 sq] 35) = z := ⟨_, rfl⟩
  obtain ⟨X, hX⟩ : ∃ z, w.heap.size = z := ⟨_, rfl⟩
  rw [hw1] at b1 kx
  rw [hX] at kx
  have P1 := hide (h.below b1)
  have B1 := hide b1
  have HW1 := hide hw1
  have HX := hide hX
  obtain ⟨A, cap, hrr, hof⟩ := of_c w1.drew p L ls (P1.out.below (Below.refl w1.heap.size w1).drew) rk
  have hrl := rowL_len hlen rk
  obtain ⟨ah, hah⟩ : ∃ z, rowL ls rk = z := ⟨_, rfl⟩
  rw [hah] at hrr hof hrl ⊢
  obtain ⟨n, hn⟩ : ∃ z, ah.length = z := ⟨_, rfl⟩
  rw [hn] at hof hrl
  have OC := hide hof
  have FC := hide (free_c ((hq.below b1).below (Below.refl w1.heap.size w1).drew) hl A cap n ah hrr hn (by omega) key rk ca pe tg rq dn fr sq)
  have x0 : w1.cell? ⟨X, 0, none⟩ = some (.string key) := kx.cell 0
  have x1 : w1.cell? ⟨X, 1, none⟩ = some (.int .i64 rk) := kx.cell 1
  have x2 : w1.cell? ⟨X, 2, none⟩ = some (.int .i64 ca) := kx.cell 2
  have x3 : w1.cell? ⟨X, 3, none⟩ = some (.int .i64 pe) := kx.cell 3
  have x4 : w1.cell? ⟨X, 4, none⟩ = some (.int .i64 tg) := kx.cell 4
  have x5 : w1.cell? ⟨X, 5, none⟩ = some (.int .i64 rq) := kx.cell 5
  have x6 : w1.cell? ⟨X, 6, none⟩ = some (.bool dn) := kx.cell 6
  have x7 : w1.cell? ⟨X, 7, none⟩ = some (.int .i64 fr) := kx.cell 7
  have x8 : w1.cell? ⟨X, 8, none⟩ = some (.int .i64 sq) := kx.cell 8
  clear b1 kx hw1 hX h hq hrr hof hlen
  go_enter Try.func25, Try.ntmps25
  go_upto_region 1 with (fail)
  rw [HW1.out, HX.out]
  go_upto_region 3 with (go_at_call 60; refine (made_yes _ _ _ _ P1.out).mono ?_; rintro e w' ⟨rfl, rfl⟩)
  refine wp_region_still_tail 6 (by kernel_rfl) (by kernel_rfl) ?_
  simp only [List.take_succ_cons, List.take_zero, List.drop_succ_cons, List.drop_zero]
  repeat still_step
  still_call (OC.out.mono fun _ _ h => ⟨h.1, h.2.symm⟩)
  refine wpStill_nil ?_
  change wpList _ _ _ _ _ w1.drew
  go_wp2_with fail
  refine FC.out.mono ?_
  rintro e w2 ⟨A2, c2, rfl, ho, hb2⟩
  go_wp2_with fail
  go_ret
  have hb3 : Below w.heap.size w w2 := B1.out.drew.trans (hb2.mono B1.out.size)
  exact ⟨A2, c2, rfl, own_monoP ho B1.out.size, hb3⟩
end Po
end Go.Proofs.Ytonmojinijpneaa
