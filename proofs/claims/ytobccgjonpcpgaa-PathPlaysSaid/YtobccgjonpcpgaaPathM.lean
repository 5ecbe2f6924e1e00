/- The reference's Next. -/
import Derived.Test.YtobccgjonpcpgaaRows
import Derived.Test.YtobccgjonpcpgaaPathL
import Derived.Deep.RegionWith
import Derived.BigRegion
namespace Go.Proofs.Ytobccgjonpcpgaa
open Go Go.RowKit
set_option linter.unusedVariables false
set_option linter.unusedSimpArgs false
namespace Pth
theorem ptCs_on (L : List Lv) (b : Lv) : ptCs (L ++ [b.on]) = ptCs (L ++ [b]) := by rw [ptCs_app, ptCs_app]; rfl
theorem ofCs_on (L : List Lv) (b : Lv) : ofCs (L ++ [b.on]) = ofCs (L ++ [b]) := by rw [ofCs_app, ofCs_app]; rfl
theorem atCs_on (L : List Lv) (b : Lv) : atCs (L ++ [b.on]) = (atCs (L ++ [b])).set L.length (.int .i64 ((b.at_ : Int) + 1)) := by
  rw [atCs_app, atCs_app, List.set_append_right _ _ (by simp [atCs])]
  simp [atCs, Lv.on]
theorem ptCs_take (L : List Lv) (b : Lv) : (ptCs (L ++ [b])).take (L.length * 3) = ptCs L := by
  have h : (ptCs L).length = L.length * 3 := by
    induction L with
    | nil => rfl
    | cons x L ih => rw [ptCs_cons, List.length_append, ih, ptC_len, List.length_cons]; omega
  rw [ptCs_app, List.take_append_of_le_length (by omega), ← h, List.take_length]
theorem ofCs_take (L : List Lv) (b : Lv) : (ofCs (L ++ [b])).take (L.length * 1) = ofCs L := by
  have h : (ofCs L).length = L.length := by simp [ofCs]
  rw [ofCs_app, List.take_append_of_le_length (by omega), Nat.mul_one, ← h, List.take_length]
theorem atCs_take (L : List Lv) (b : Lv) : (atCs (L ++ [b])).take (L.length * 1) = atCs L := by
  have h : (atCs L).length = L.length := by simp [atCs]
  rw [atCs_app, List.take_append_of_le_length (by omega), Nat.mul_one, ← h, List.take_length]
def stM (w : World) (U : Nat) : Nat := match w.cell? ⟨U, 0, none⟩ with | some (.slice _ m _) => m | _ => 0
theorem stM_of {w : World} {U m c : Nat} {A : Option Addr} (h : w.cell? ⟨U, 0, none⟩ = some (.slice A m c)) : stM w U = m := by unfold stM; rw [h]
theorem keeps_set {w : World} {p : Addr} {ty : TypeId} {cs : Array Value} (h : Blk w p.block ty cs) (v : Value) : KeepsBut [ty] w (w.setCell p v) := by
  refine ⟨by simp [World.setCell], fun j cs' ty' fz hj hty => Below.heap_setCell w p v j fun e' => hty ?_⟩
  have e' : j = p.block := e'
  subst e'
  rw [blk_type h hj]
  exact List.mem_cons_self
set_option maxRecDepth 100000 in
set_option maxHeartbeats 8000000 in
theorem Next_b (U B : Nat) (ls : List Lv) (w : World) (ht : StB w U B ls) (hBU : B ≤ U) (hf : ∀ x ∈ ls, x.fit) :
    Calls Try.prog 10 #[.pointer (some ⟨U, 0, none⟩)] w fun e w' => e = .returned (.bool (decide (0 < (nextL ls).length))) ∧ StB w' U B (nextL ls) ∧ Below B w w' ∧ KeepsBut [3, 31] w w' := by
  have HBU := hide hBU
  have hBW : B ≤ w.heap.size := by
    obtain ⟨_, _, _, _, _, _, hb, _⟩ := ht.open_
    have := hb.lt
    omega
  have HBW := hide hBW
  have S0 : Hid (∃ ms : List Lv, StB w U B ms ∧ nextL ls = nextL ms ∧ (∀ x ∈ ms, x.fit)) := hide ⟨ls, ht, rfl, hf⟩
  clear hBU ht hf hBW
  go_enter Try.func10, Try.ntmps10
  go_wp2_with fail
  go_loopw [] (fun wr => Hid (∃ ms : List Lv, StB wr U B ms ∧ nextL ls = nextL ms ∧ (∀ x ∈ ms, x.fit)) ∧ Hid (Below B w wr) ∧ Hid (KeepsBut [3, 31] w wr)) (fun wr => stM wr U)
  case atStart => exact ⟨S0, hide (Below.refl _ _), hide (KeepsBut.of_below (Below.refl _ _))⟩
  case round =>
    clear S0
    obtain ⟨HS, HB, HK⟩ := hrel
    obtain ⟨ms, hst, hnx, hfit⟩ := HS.out
    clear HS
    obtain ⟨A, c, A2, c2, A3, c3, hbU, o1, o2, o3, hcc⟩ := hst.open_
    have u0 : wr.cell? ⟨U, 0, none⟩ = some (.slice A ms.length c) := hbU.cell 0
    have u1 : wr.cell? ⟨U, 1, none⟩ = some (.slice A2 ms.length c2) := hbU.cell 1
    have u2 : wr.cell? ⟨U, 2, none⟩ = some (.slice A3 ms.length c3) := hbU.cell 2
    by_cases hms : ms = []
    · subst hms
      have FIN := hide (show StB wr U B (nextL ls) by rw [hnx]; exact hst)
      have HNX := hide hnx
      have u0 : wr.cell? ⟨U, 0, none⟩ = some (.slice A 0 c) := u0
      clear hst hnx hfit hbU o1 o2 o3 hcc u1 u2
      go_wp2_with fail
      go_ret
      refine ⟨?_, FIN.out, HB.out, HK.out⟩
      rw [HNX.out]
      rfl
    obtain ⟨L, b, rfl⟩ : ∃ L b, ms = L ++ [b] := ⟨ms.dropLast, ms.getLast hms, (List.dropLast_concat_getLast hms).symm⟩
    have hrows := hst.rows
    have hle := hst.le
    have hlen : (L ++ [b]).length = L.length + 1 := by simp
    have hiL : L.length < (L ++ [b]).length := by omega
    obtain ⟨g, g2, g3, rfl, rfl, rfl, p0, p1, p2, p3, p4, f4⟩ := hcc L.length hiL
    have eb : (L ++ [b])[L.length]'hiL = b := by simp
    rw [eb] at p0 p1 p2 p3 p4
    have hbx := hfit b (by simp)
    have MB := hide (fun (m : Nat) => (eb ▸ (many_b U B (L ++ [b]) L.length hiL (wr.drewN m) (hst.below (below_drewN (Below.refl wr.heap.size wr) m)) (by rw [eb]; have := hbx.2.1; omega)).mono fun _ _ hh => And.intro hh.1 hh.2.symm : Calls Try.prog 24 #[.pointer (some ⟨U, 0, none⟩), .int .i64 L.length] (wr.drewN m) fun e w' => e = .returned (.int .i64 (many b)) ∧ w' = wr.drewN m))
    obtain ⟨_, e1, hge, _, hbg, _, hc1, _⟩ := own_cell o1 (by omega)
    obtain ⟨_, e2, _, _, _, _, hc2, _⟩ := own_cell o2 (by omega)
    obtain ⟨g3', e3, hge3, _, _, _, hc3, _⟩ := own_cell o3 (by omega)
    obtain rfl : g3 = g3' := by injection e3 with e3; injection e3
    have hg3U : g3 ≠ U := fun e => own_blk_ne o3 hbU (by decide) (by rw [e]; rfl)
    rw [hlen] at hc1 hc2 hc3 u0 u1 u2
    have hat : b.at_ ≤ 101 := by
      obtain ⟨_, h1, h2⟩ := hbx
      unfold many at h2
      split at h2 <;> omega
    have hmy : many b ≤ 101 := by
      have := hbx.2.1
      unfold many
      split <;> omega
    have hL : L.length ≤ 2000 := by omega
    have hlm : leftN b = many b - 1 - b.at_ := rfl
    by_cases hl : 0 < leftN b
    · have k1 : KeepsBut [3] wr (wr.setCell ⟨g3, L.length, none⟩ (.int .i64 ((b.at_ : Int) + 1))) := by
        refine ⟨by simp [World.setCell], fun j cs ty fz hj hty => Below.heap_setCell wr ⟨g3, L.length, none⟩ _ j fun e' => hty ?_⟩
        have e' : j = g3 := e'
        subst e'
        obtain ⟨cs', hcs'⟩ := own_type o3
        rw [blk_type hcs' hj]
        exact List.mem_cons_self
      have FIN : StB (wr.setCell ⟨g3, L.length, none⟩ (.int .i64 ((b.at_ : Int) + 1))) U B (nextL ls) := by
        rw [hnx, nextL_snoc, if_pos hl]
        have el : (L ++ [b.on]).length = (L ++ [b]).length := by simp
        refine ⟨by omega, ⟨_, _, _, hbU.far (p := ⟨g3, L.length, none⟩) (fun e => hg3U e.symm) _, by rw [el, ptCs_on]; exact KeepsBut.own k1 o1 (by decide), by rw [el, ofCs_on]; exact KeepsBut.own k1 o2 (by decide), by rw [el, atCs_on]; exact own_set o3 _⟩, fun i hi => ?_⟩
        by_cases hi2 : i < L.length
        · have h1 := hrows i (by omega)
          rw [List.getElem_append_left hi2] at h1 ⊢
          exact h1.keeps k1 (by decide)
        · have e : i = L.length := by rw [List.length_append, List.length_singleton] at hi; omega
          subst e
          have h1 := hrows L.length hiL
          rw [eb] at h1
          have eb2 : (L ++ [b.on])[L.length]'hi = b.on := by simp
          rw [eb2]
          exact (show VRow (wr.setCell ⟨g3, L.length, none⟩ (.int .i64 ((b.at_ : Int) + 1))) b.A b.vs from h1.keeps k1 (by decide))
      have NE : Hid (decide (0 < (nextL ls).length) = true) := hide (by rw [hnx, nextL_snoc, if_pos hl]; simp)
      have HF := hide (fun m => And.intro (FIN.below (below_drewN (Below.refl _ _) m)) (And.intro (((HB.out.trans (below_drewN (Below.refl _ _) m)).setCell (p := ⟨g3, L.length, none⟩) hge3 (.int .i64 ((b.at_ : Int) + 1)))) (show KeepsBut [3, 31] w ((wr.drewN m).setCell ⟨g3, L.length, none⟩ (.int .i64 ((b.at_ : Int) + 1))) from HK.out.trans ⟨k1.1, fun j cs ty fz hj hn => k1.2 j cs ty fz hj fun hm => hn (by rw [List.mem_singleton.1 hm]; decide)⟩)))
      have hlI : (b.at_ : Int) + 1 < (many b : Int) := by omega
      obtain ⟨br, bc, bA, bcap, bvs, boff, bat⟩ := b
      simp only at p0 p1 p2 p3 p4 hat HF hlI
      generalize many ⟨br, bc, bA, bcap, bvs, boff, bat⟩ = z at *
      clear FIN k1 hnx hfit hrows hle hbU o1 o2 o3 hcc hst e1 e2 e3 hlen eb hl hbx hms hge hge3 hbg hg3U hlm
      go_wp2_with fail
      go_quiet ((go_at_call 24; exact Calls.quiet_of_same (MB.out _)))
      go_wp2_with fail
      go_ret
      rw [NE.out]
      exact ⟨rfl, HF.out nq⟩
    · have hlI : ¬ ((b.at_ : Int) + 1 < (many b : Int)) := by omega
      have HNX : Hid (nextL ls = nextL L) := hide (by rw [hnx, nextL_snoc, if_neg hl])
      have HST := hide hst
      have fU0 := hbU.frozen 0
      have fU1 := hbU.frozen 1
      have fU2 := hbU.frozen 2
      have FIN : ∀ m, StB ((((wr.drewN m).setCell ⟨U, 0, none⟩ (.slice (some ⟨g, 0, none⟩) L.length c)).setCell ⟨U, 1, none⟩ (.slice (some ⟨g2, 0, none⟩) L.length c2)).setCell ⟨U, 2, none⟩ (.slice (some ⟨g3, 0, none⟩) L.length c3)) U B L ∧
          Below B w ((((wr.drewN m).setCell ⟨U, 0, none⟩ (.slice (some ⟨g, 0, none⟩) L.length c)).setCell ⟨U, 1, none⟩ (.slice (some ⟨g2, 0, none⟩) L.length c2)).setCell ⟨U, 2, none⟩ (.slice (some ⟨g3, 0, none⟩) L.length c3)) ∧
          KeepsBut [3, 31] w ((((wr.drewN m).setCell ⟨U, 0, none⟩ (.slice (some ⟨g, 0, none⟩) L.length c)).setCell ⟨U, 1, none⟩ (.slice (some ⟨g2, 0, none⟩) L.length c2)).setCell ⟨U, 2, none⟩ (.slice (some ⟨g3, 0, none⟩) L.length c3)) ∧
          stM ((((wr.drewN m).setCell ⟨U, 0, none⟩ (.slice (some ⟨g, 0, none⟩) L.length c)).setCell ⟨U, 1, none⟩ (.slice (some ⟨g2, 0, none⟩) L.length c2)).setCell ⟨U, 2, none⟩ (.slice (some ⟨g3, 0, none⟩) L.length c3)) U = L.length := by
        intro m
        have bd := below_drewN (Below.refl wr.heap.size wr) m
        have hbd : Blk (wr.drewN m) U 31 _ := hbU.below bd hbU.lt
        have s1 := own_shrink (own_belowR o1 bd) (show L.length ≤ (L ++ [b]).length by omega)
        have s2 := own_shrink (own_belowR o2 bd) (show L.length ≤ (L ++ [b]).length by omega)
        have s3 := own_shrink (own_belowR o3 bd) (show L.length ≤ (L ++ [b]).length by omega)
        rw [ptCs_take] at s1
        rw [ofCs_take] at s2
        rw [atCs_take] at s3
        have q1 := hbd.set_ 0 (.slice (some ⟨g, 0, none⟩) L.length c)
        have q2 := q1.set_ 1 (.slice (some ⟨g2, 0, none⟩) L.length c2)
        have q3 := q2.set_ 2 (.slice (some ⟨g3, 0, none⟩) L.length c3)
        have k := ((keeps_set (p := ⟨U, 0, none⟩) hbd (.slice (some ⟨g, 0, none⟩) L.length c)).trans (keeps_set (p := ⟨U, 1, none⟩) q1 (.slice (some ⟨g2, 0, none⟩) L.length c2))).trans (keeps_set (p := ⟨U, 2, none⟩) q2 (.slice (some ⟨g3, 0, none⟩) L.length c3))
        have q4 : Blk ((((wr.drewN m).setCell ⟨U, 0, none⟩ (.slice (some ⟨g, 0, none⟩) L.length c)).setCell ⟨U, 1, none⟩ (.slice (some ⟨g2, 0, none⟩) L.length c2)).setCell ⟨U, 2, none⟩ (.slice (some ⟨g3, 0, none⟩) L.length c3)) U 31 #[.slice (some ⟨g, 0, none⟩) L.length c, .slice (some ⟨g2, 0, none⟩) L.length c2, .slice (some ⟨g3, 0, none⟩) L.length c3] := by simpa using q3
        refine ⟨⟨by omega, ⟨_, _, _, q4, KeepsBut.own k s1 (by decide), KeepsBut.own k s2 (by decide), KeepsBut.own k s3 (by decide)⟩, fun i hi => ?_⟩, ?_, ?_, stM_of (q4.cell 0)⟩
        · have h1 := hrows i (by omega)
          rw [List.getElem_append_left hi] at h1
          exact (show VRow (wr.drewN m) _ _ from h1).keeps k (by decide)
        · exact (((HB.out.trans (bd.mono (Nat.le_trans HBW.out HB.out.size))).setCell (p := ⟨U, 0, none⟩) HBU.out _).setCell (p := ⟨U, 1, none⟩) HBU.out _).setCell (p := ⟨U, 2, none⟩) HBU.out _
        · exact (HK.out.trans (KeepsBut.of_below bd)).trans ⟨k.1, fun j cs ty fz hj hn => k.2 j cs ty fz hj fun hm => hn (by rw [List.mem_singleton.1 hm]; decide)⟩
      have HFIN := hide FIN
      have HFT : Hid (∀ x ∈ L, x.fit) := hide fun x hx => hfit x (List.mem_append_left _ hx)
      have HM := hide (stM_of u0)
      obtain ⟨br, bc, bA, bcap, bvs, boff, bat⟩ := b
      simp only at p0 p1 p2 p3 p4 hat hlI
      generalize many ⟨br, bc, bA, bcap, bvs, boff, bat⟩ = z at *
      clear hst hnx hrows hle o1 o2 o3 hcc e1 e2 e3 hlen eb hl hbx hms hge hge3 hbg hlm hfit hiL hbU FIN
      go_wp2_with fail
      go_quiet ((go_at_call 24; exact Calls.quiet_of_same (MB.out _)))
      go_wp2_with fail
      go_region
      go_wp2_with fail
      obtain ⟨F1, F2, F3, F4⟩ := HFIN.out (nq + 1)
      refine ⟨⟨hide ⟨L, F1, HNX.out, HFT.out⟩, hide F2, hide F3⟩, ?_⟩
      rw [F4, HM.out]
      omega
end Pth
end Go.Proofs.Ytobccgjonpcpgaa
