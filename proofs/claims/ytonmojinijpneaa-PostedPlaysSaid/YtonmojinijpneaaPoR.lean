/- At. -/
import Derived.Test.YtonmojinijpneaaRows
import Derived.Test.YtonmojinijpneaaPoQ
namespace Go.Proofs.Ytonmojinijpneaa
open Go Go.Joins Go.ChangeShapes Go.WideShapes Go.RowKit Go.Deep Go.Lib
set_option linter.unusedVariables false
set_option linter.unusedSimpArgs false
namespace Po
theorem put9 {w : World} {X : Nat} {t : TypeId} {c0 c1 c2 c3 c4 c5 c6 c7 c8 : Value} (h : Blk w X t #[c0, c1, c2, c3, c4, c5, c6, c7, c8]) (u0 u1 u2 u3 u4 u5 u6 u7 u8 : Value) : Blk (((((((((w.setCell ⟨X, 0, none⟩ (u0)).setCell ⟨X, 1, none⟩ (u1)).setCell ⟨X, 2, none⟩ (u2)).setCell ⟨X, 3, none⟩ (u3)).setCell ⟨X, 4, none⟩ (u4)).setCell ⟨X, 5, none⟩ (u5)).setCell ⟨X, 6, none⟩ (u6)).setCell ⟨X, 7, none⟩ (u7)).setCell ⟨X, 8, none⟩ (u8)) X t #[u0, u1, u2, u3, u4, u5, u6, u7, u8] := by
  have h1 := ((((((((h.set_ 0 u0).set_ 1 u1).set_ 2 u2).set_ 3 u3).set_ 4 u4).set_ 5 u5).set_ 6 u6).set_ 7 u7).set_ 8 u8
  simpa only [List.setIfInBounds_toArray, List.set_cons_zero, List.set_cons_succ] using h1
theorem bel9 {w a : World} {X B : Nat} (h : Below B a w) (hX : B ≤ X) (u0 u1 u2 u3 u4 u5 u6 u7 u8 : Value) : Below B a (((((((((w.setCell ⟨X, 0, none⟩ (u0)).setCell ⟨X, 1, none⟩ (u1)).setCell ⟨X, 2, none⟩ (u2)).setCell ⟨X, 3, none⟩ (u3)).setCell ⟨X, 4, none⟩ (u4)).setCell ⟨X, 5, none⟩ (u5)).setCell ⟨X, 6, none⟩ (u6)).setCell ⟨X, 7, none⟩ (u7)).setCell ⟨X, 8, none⟩ (u8)) :=
  ((((((((h.setCell (p := ⟨X, 0, none⟩) hX u0).setCell (p := ⟨X, 1, none⟩) hX u1).setCell (p := ⟨X, 2, none⟩) hX u2).setCell (p := ⟨X, 3, none⟩) hX u3).setCell (p := ⟨X, 4, none⟩) hX u4).setCell (p := ⟨X, 5, none⟩) hX u5).setCell (p := ⟨X, 6, none⟩) hX u6).setCell (p := ⟨X, 7, none⟩) hX u7).setCell (p := ⟨X, 8, none⟩) hX u8
def r0 : Rc := ⟨⟨#[]⟩, 0, 0, 0, 0, 0, false, 0, 0⟩
/-- The receive of a call. -/
def atL (rs : List Rc) (ca : Int) : Option Rc := rs.find? fun x => decide (x.ca = ca)
def atV (o : Option Rc) : Value := .tuple #[rcV (o.getD r0), .bool o.isSome]
set_option maxRecDepth 100000 in
set_option maxHeartbeats 4000000 in
theorem at_c {w : World} {p : Nat} {L : Nat → Option Addr × Nat} {ls : Nat → List Rc} (h : PSt w p L ls) (hlen : ∀ k, k < 64 → (ls k).length ≤ 1000) (k : Nat) (hk : k < 64) (ca : Int) :
    Calls Try.prog 13 #[.pointer (some ⟨p, 0, none⟩), .int .i64 k, .int .i64 ca] w fun e w' => e = .returned (atV (atL (ls k) ca)) ∧ Below w.heap.size w w' := by
  have b1 := (Below.refl w.heap.size w).alloc (Nat.le_refl _) (.cells #[.string ⟨#[]⟩, .int .i64 0, .int .i64 0, .int .i64 0, .int .i64 0, .int .i64 0, .bool false, .int .i64 0, .int .i64 0] 35)
  have kx := Blk.new w 35 #[.string ⟨#[]⟩, .int .i64 0, .int .i64 0, .int .i64 0, .int .i64 0, .int .i64 0, .bool false, .int .i64 0, .int .i64 0]
  obtain ⟨w1, hw1⟩ : ∃ z, w.alloc (.cells #[.string ⟨#[]⟩, .int .i64 0, .int .i64 0, .int .i64 0, .int .i64 0, .int .i64 0, .bool false, .int .i64 0, .int .i64 0] 35) = z := ⟨_, rfl⟩
  obtain ⟨X, hX⟩ : ∃ z, w.heap.size = z := ⟨_, rfl⟩
  rw [hw1] at b1 kx
  rw [hX] at kx
  have P1 := hide (h.below b1)
  have B1 := hide b1
  have KX := hide kx
  have HW1 := hide hw1
  have HX := hide hX
  have PC := hide (place_in w1 p L ls P1.out k hk (by have := hlen k hk; omega) ca)
  have hk0 : ¬ (k : Int) < 0 := by omega
  have hk2 : (k : Int) < 64 := by omega
  clear b1 kx hw1 hX h hlen
  go_enter Try.func13, Try.ntmps13
  go_upto_region 1 with (fail)
  rw [HW1.out, HX.out]
  go_upto_region 2 with (go_at_call 46; refine PC.out.mono ?_; rintro e w2 ⟨i, b, rfl, hf, hb⟩)
  have KX2 := hide (KX.out.below hb KX.out.lt)
  have HB2 := hide (B1.out.trans (hb.mono B1.out.size))
  cases b with
  | false =>
    have FN : Hid (atL (ls k) ca = none) := hide (by unfold atL; exact List.find?_eq_none.2 (fun x hx => by simpa using hf.2.2 rfl x hx))
    clear hf hb PC
    have z0 : w2.cell? ⟨X, 0, none⟩ = some (.string ⟨#[]⟩) := KX2.out.cell 0
    have f0 := KX2.out.frozen 0
    have z1 : w2.cell? ⟨X, 1, none⟩ = some (.int .i64 0) := KX2.out.cell 1
    have f1 := KX2.out.frozen 1
    have z2 : w2.cell? ⟨X, 2, none⟩ = some (.int .i64 0) := KX2.out.cell 2
    have f2 := KX2.out.frozen 2
    have z3 : w2.cell? ⟨X, 3, none⟩ = some (.int .i64 0) := KX2.out.cell 3
    have f3 := KX2.out.frozen 3
    have z4 : w2.cell? ⟨X, 4, none⟩ = some (.int .i64 0) := KX2.out.cell 4
    have f4 := KX2.out.frozen 4
    have z5 : w2.cell? ⟨X, 5, none⟩ = some (.int .i64 0) := KX2.out.cell 5
    have f5 := KX2.out.frozen 5
    have z6 : w2.cell? ⟨X, 6, none⟩ = some (.bool false) := KX2.out.cell 6
    have f6 := KX2.out.frozen 6
    have z7 : w2.cell? ⟨X, 7, none⟩ = some (.int .i64 0) := KX2.out.cell 7
    have f7 := KX2.out.frozen 7
    have z8 : w2.cell? ⟨X, 8, none⟩ = some (.int .i64 0) := KX2.out.cell 8
    have f8 := KX2.out.frozen 8
    have k9 := put9 (KX2.out) (.string ⟨#[]⟩) (.int .i64 0) (.int .i64 0) (.int .i64 0) (.int .i64 0) (.int .i64 0) (.bool false) (.int .i64 0) (.int .i64 0)
    have b9 := bel9 (HB2.out) (show w.heap.size ≤ X by have := HX.out; omega) (.string ⟨#[]⟩) (.int .i64 0) (.int .i64 0) (.int .i64 0) (.int .i64 0) (.int .i64 0) (.bool false) (.int .i64 0) (.int .i64 0)
    obtain ⟨w9, hw9⟩ : ∃ z, (((((((((w2.setCell ⟨X, 0, none⟩ (.string ⟨#[]⟩)).setCell ⟨X, 1, none⟩ (.int .i64 0)).setCell ⟨X, 2, none⟩ (.int .i64 0)).setCell ⟨X, 3, none⟩ (.int .i64 0)).setCell ⟨X, 4, none⟩ (.int .i64 0)).setCell ⟨X, 5, none⟩ (.int .i64 0)).setCell ⟨X, 6, none⟩ (.bool false)).setCell ⟨X, 7, none⟩ (.int .i64 0)).setCell ⟨X, 8, none⟩ (.int .i64 0)) = z := ⟨_, rfl⟩
    rw [hw9] at k9 b9
    have u0 : w9.cell? ⟨X, 0, none⟩ = some (.string ⟨#[]⟩) := k9.cell 0
    have u1 : w9.cell? ⟨X, 1, none⟩ = some (.int .i64 0) := k9.cell 1
    have u2 : w9.cell? ⟨X, 2, none⟩ = some (.int .i64 0) := k9.cell 2
    have u3 : w9.cell? ⟨X, 3, none⟩ = some (.int .i64 0) := k9.cell 3
    have u4 : w9.cell? ⟨X, 4, none⟩ = some (.int .i64 0) := k9.cell 4
    have u5 : w9.cell? ⟨X, 5, none⟩ = some (.int .i64 0) := k9.cell 5
    have u6 : w9.cell? ⟨X, 6, none⟩ = some (.bool false) := k9.cell 6
    have u7 : w9.cell? ⟨X, 7, none⟩ = some (.int .i64 0) := k9.cell 7
    have u8 : w9.cell? ⟨X, 8, none⟩ = some (.int .i64 0) := k9.cell 8
    have HB9 := hide b9
    clear k9 b9
    go_wp2_with fail
    exact bodyPost_ret (v := .tuple #[.agg #[.string ⟨#[]⟩, .int .i64 0, .int .i64 0, .int .i64 0, .int .i64 0, .int .i64 0, .bool false, .int .i64 0, .int .i64 0], .bool false]) (by simp [results, Try.results13, go_sem, hw9, u0, u1, u2, u3, u4, u5, u6, u7, u8]) rfl ⟨by rw [FN.out]; rfl, by first | exact HB9.out | (rw [hw9]; exact HB9.out)⟩
  | true =>
    obtain ⟨m, hm, hca⟩ := hf.2.1 rfl
    have FS : Hid (atL (ls k) ca = some m) := hide (by unfold atL; rw [← hca]; exact rise_find (ls k) i m (P1.out.up k hk) hm)
    obtain ⟨n, hn⟩ : ∃ n, (ls k).length = n := ⟨_, rfl⟩
    have hin : i < n := by rw [← hn]; exact (List.getElem?_eq_some_iff.1 hm).1
    have P2 := P1.out.below hb
    obtain ⟨g, hA, hg, hit⟩ := (P2.rrow k hk).it i m hm
    obtain ⟨cap, hcap⟩ : ∃ c, (L k).2 = c := ⟨_, rfl⟩
    have hc : w2.cell? ⟨p, 1 + k, none⟩ = some (.slice (some ⟨g, 0, none⟩) n cap) := by rw [← hA, ← hcap, ← hn]; exact P2.at_ k hk
    have hi0 : (i : Int) < (n : Int) := by omega
    obtain ⟨mk, mr, mc, mp, mt, mq, md, mf, ms⟩ := m
    have n0 : w2.cell? ⟨g, i * 9, none⟩ = some (.string mk) := hit 0 _ rfl
    have n1 : w2.cell? ⟨g, i * 9 + 1, none⟩ = some (.int .i64 mr) := hit 1 _ rfl
    have n2 : w2.cell? ⟨g, i * 9 + 2, none⟩ = some (.int .i64 mc) := hit 2 _ rfl
    have n3 : w2.cell? ⟨g, i * 9 + 3, none⟩ = some (.int .i64 mp) := hit 3 _ rfl
    have n4 : w2.cell? ⟨g, i * 9 + 4, none⟩ = some (.int .i64 mt) := hit 4 _ rfl
    have n5 : w2.cell? ⟨g, i * 9 + 5, none⟩ = some (.int .i64 mq) := hit 5 _ rfl
    have n6 : w2.cell? ⟨g, i * 9 + 6, none⟩ = some (.bool md) := hit 6 _ rfl
    have n7 : w2.cell? ⟨g, i * 9 + 7, none⟩ = some (.int .i64 mf) := hit 7 _ rfl
    have n8 : w2.cell? ⟨g, i * 9 + 8, none⟩ = some (.int .i64 ms) := hit 8 _ rfl
    clear hf hb PC hm hn P2 hA hcap hca hit
    have z0 : w2.cell? ⟨X, 0, none⟩ = some (.string ⟨#[]⟩) := KX2.out.cell 0
    have f0 := KX2.out.frozen 0
    have z1 : w2.cell? ⟨X, 1, none⟩ = some (.int .i64 0) := KX2.out.cell 1
    have f1 := KX2.out.frozen 1
    have z2 : w2.cell? ⟨X, 2, none⟩ = some (.int .i64 0) := KX2.out.cell 2
    have f2 := KX2.out.frozen 2
    have z3 : w2.cell? ⟨X, 3, none⟩ = some (.int .i64 0) := KX2.out.cell 3
    have f3 := KX2.out.frozen 3
    have z4 : w2.cell? ⟨X, 4, none⟩ = some (.int .i64 0) := KX2.out.cell 4
    have f4 := KX2.out.frozen 4
    have z5 : w2.cell? ⟨X, 5, none⟩ = some (.int .i64 0) := KX2.out.cell 5
    have f5 := KX2.out.frozen 5
    have z6 : w2.cell? ⟨X, 6, none⟩ = some (.bool false) := KX2.out.cell 6
    have f6 := KX2.out.frozen 6
    have z7 : w2.cell? ⟨X, 7, none⟩ = some (.int .i64 0) := KX2.out.cell 7
    have f7 := KX2.out.frozen 7
    have z8 : w2.cell? ⟨X, 8, none⟩ = some (.int .i64 0) := KX2.out.cell 8
    have f8 := KX2.out.frozen 8
    have k9 := put9 (KX2.out) (.string mk) (.int .i64 mr) (.int .i64 mc) (.int .i64 mp) (.int .i64 mt) (.int .i64 mq) (.bool md) (.int .i64 mf) (.int .i64 ms)
    have b9 := bel9 (HB2.out) (show w.heap.size ≤ X by have := HX.out; omega) (.string mk) (.int .i64 mr) (.int .i64 mc) (.int .i64 mp) (.int .i64 mt) (.int .i64 mq) (.bool md) (.int .i64 mf) (.int .i64 ms)
    obtain ⟨w9, hw9⟩ : ∃ z, (((((((((w2.setCell ⟨X, 0, none⟩ (.string mk)).setCell ⟨X, 1, none⟩ (.int .i64 mr)).setCell ⟨X, 2, none⟩ (.int .i64 mc)).setCell ⟨X, 3, none⟩ (.int .i64 mp)).setCell ⟨X, 4, none⟩ (.int .i64 mt)).setCell ⟨X, 5, none⟩ (.int .i64 mq)).setCell ⟨X, 6, none⟩ (.bool md)).setCell ⟨X, 7, none⟩ (.int .i64 mf)).setCell ⟨X, 8, none⟩ (.int .i64 ms)) = z := ⟨_, rfl⟩
    rw [hw9] at k9 b9
    have u0 : w9.cell? ⟨X, 0, none⟩ = some (.string mk) := k9.cell 0
    have u1 : w9.cell? ⟨X, 1, none⟩ = some (.int .i64 mr) := k9.cell 1
    have u2 : w9.cell? ⟨X, 2, none⟩ = some (.int .i64 mc) := k9.cell 2
    have u3 : w9.cell? ⟨X, 3, none⟩ = some (.int .i64 mp) := k9.cell 3
    have u4 : w9.cell? ⟨X, 4, none⟩ = some (.int .i64 mt) := k9.cell 4
    have u5 : w9.cell? ⟨X, 5, none⟩ = some (.int .i64 mq) := k9.cell 5
    have u6 : w9.cell? ⟨X, 6, none⟩ = some (.bool md) := k9.cell 6
    have u7 : w9.cell? ⟨X, 7, none⟩ = some (.int .i64 mf) := k9.cell 7
    have u8 : w9.cell? ⟨X, 8, none⟩ = some (.int .i64 ms) := k9.cell 8
    have HB9 := hide b9
    clear k9 b9
    go_wp2_with fail
    exact bodyPost_ret (v := .tuple #[.agg #[.string mk, .int .i64 mr, .int .i64 mc, .int .i64 mp, .int .i64 mt, .int .i64 mq, .bool md, .int .i64 mf, .int .i64 ms], .bool true]) (by simp [results, Try.results13, go_sem, hw9, u0, u1, u2, u3, u4, u5, u6, u7, u8]) rfl ⟨by rw [FS.out]; rfl, by first | exact HB9.out | (rw [hw9]; exact HB9.out)⟩
set_option maxRecDepth 100000 in
theorem at_out {w : World} {p : Nat} {L : Nat → Option Addr × Nat} {ls : Nat → List Rc} (h : PSt w p L ls) (rk ca : Int) (hk : rk < 0 ∨ 64 ≤ rk) : Calls Try.prog 13 #[.pointer (some ⟨p, 0, none⟩), .int .i64 rk, .int .i64 ca] w fun e w' => e = .returned (atV none) ∧ Below w.heap.size w w' := by
  have PC := hide (place_out (w.alloc (.cells #[.string ⟨#[]⟩, .int .i64 0, .int .i64 0, .int .i64 0, .int .i64 0, .int .i64 0, .bool false, .int .i64 0, .int .i64 0] 35)) p L ls (h.below ((Below.refl _ _).alloc (Nat.le_refl _) _)) rk hk ca)
  clear h
  go_enter Try.func13, Try.ntmps13
  go_wp2_with (go_at_call 46; refine PC.out.mono ?_; rintro e w' ⟨rfl, rfl⟩)
  exact bodyPost_ret (v := .tuple #[.agg #[.string ⟨#[]⟩, .int .i64 0, .int .i64 0, .int .i64 0, .int .i64 0, .int .i64 0, .bool false, .int .i64 0, .int .i64 0], .bool false]) (by simp [results, Try.results13, go_sem]) rfl ⟨rfl, ((Below.refl _ _).alloc (Nat.le_refl _) _)⟩
end Po
end Go.Proofs.Ytonmojinijpneaa
