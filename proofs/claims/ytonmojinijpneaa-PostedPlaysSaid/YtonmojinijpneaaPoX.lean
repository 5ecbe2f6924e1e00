/- Match. -/
import Derived.Test.YtonmojinijpneaaRows
import Derived.Test.YtonmojinijpneaaPoW
namespace Go.Proofs.Ytonmojinijpneaa
open Go Go.Joins Go.ChangeShapes Go.WideShapes Go.RowKit Go.Deep Go.Lib Go.Proofs.Ytonmojinijpneaa.Qu
set_option linter.unusedVariables false
set_option linter.unusedSimpArgs false
namespace Po
set_option maxRecDepth 100000 in
set_option maxHeartbeats 8000000 in
theorem Match_c {w : World} {p q : Nat} {L : Nat → Option Addr × Nat} {K : QL} {ls : Nat → List Rc} {l : List Msg} (h : PQ w p q L K ls l) (hlen : ∀ k, k < 64 → (ls k).length ≤ 1000) (hl : l.length ≤ 1000) (k : Nat) (hk : k < 64) (ca fr sq : Int) :
    Calls Try.prog 30 #[.pointer (some ⟨p, 0, none⟩), .pointer (some ⟨q, 0, none⟩), .int .i64 k, .int .i64 ca, .int .i64 fr, .int .i64 sq] w fun e w' => e = .returned (.int .i64 (matchE l (ls k) ca fr sq)) ∧ GoesPQ w p q L K (matchP l ls k ca fr sq) (matchQ l (ls k) ca fr sq) w' := by
  have b1 := (Below.refl w.heap.size w).alloc (Nat.le_refl _) (.cells #[.int .i64 fr] 3)
  have k1 := Blk.new w 3 #[.int .i64 fr]
  obtain ⟨w1, hw1⟩ : ∃ z, w.alloc (.cells #[.int .i64 fr] 3) = z := ⟨_, rfl⟩
  obtain ⟨X, hX⟩ : ∃ z, w.heap.size = z := ⟨_, rfl⟩
  have s1 : w1.heap.size = w.heap.size + 1 := by rw [← hw1]; simp
  rw [hw1] at b1 k1
  have b2 := (Below.refl w1.heap.size w1).alloc (Nat.le_refl _) (.cells #[.int .i64 sq] 3)
  have k2 := Blk.new w1 3 #[.int .i64 sq]
  obtain ⟨w2, hw2⟩ : ∃ z, w1.alloc (.cells #[.int .i64 sq] 3) = z := ⟨_, rfl⟩
  have s2 : w2.heap.size = w.heap.size + 2 := by rw [← hw2]; simp [s1]
  rw [hw2] at b2 k2
  have HL0 := hide h.lt
  rw [hX] at k1 s1 s2
  rw [s1] at k2
  have KA := hide (k1.below b2 (by omega))
  have KB := hide k2
  have B2 : Hid (Below w.heap.size w w2) := hide (b1.trans (b2.mono (by omega)))
  have H2 := hide (h.below B2.out)
  have HU := hide h.hq.uq
  have HW1 := hide hw1
  have HW2 := hide hw2
  have HX := hide hX
  have S1 := hide s1
  have MY := hide (may_c H2.out.hp hlen H2.out.hq hl k hk ca)
  have HLEN := hide (hlen k hk)
  have hk0 : ¬ (k : Int) < 0 := by omega
  have hk2 : (k : Int) < 64 := by omega
  have HML : Hid ((mayL l (ls k) ca).length ≤ 64) := hide (by
    unfold mayL
    split
    · exact Nat.zero_le _
    · split
      · exact Nat.zero_le _
      · unfold freeL flt
        refine Nat.le_trans (List.length_filter_le _ _) (Nat.le_trans (fsts_len _ _ _ _ _) ?_)
        unfold sndL
        split
        · exact senders_len _ _
        · exact Nat.le_of_ble_eq_true rfl)
  clear hw1 hw2 hX b1 b2 k1 k2 s1 s2 h hlen
  go_enter Try.func30, Try.ntmps30
  go_upto_region 1 with (fail)
  rw [HW1.out, HX.out, HW2.out]
  go_upto_region 4 with (go_at_call 60; refine (made_yes _ _ _ _ H2.out.hp).mono ?_; rintro e w' ⟨rfl, rfl⟩)
  go_wp2_with fail
  refine MY.out.mono ?_
  rintro e w3 ⟨A1, c1, rfl, hob, hb3⟩
  obtain ⟨ml, hml⟩ : ∃ z, mayL l (ls k) ca = z := ⟨_, rfl⟩
  rw [hml] at hob HML
  rw [hml]
  obtain ⟨n, hn⟩ : ∃ z, ml.length = z := ⟨_, rfl⟩
  rw [hn] at hob HML
  rw [hn]
  have CC := hide (contains_c w3 A1 c1 n ml (MRow.of_own hob hn) hn (by have := HML.out; omega) fr sq X (X + 1) ((KA.out.below hb3 KA.out.lt).cell 0) ((KB.out.below hb3 KB.out.lt).cell 0) (Nat.lt_of_lt_of_le KA.out.lt hb3.size) (Nat.lt_of_lt_of_le KB.out.lt hb3.size))
  have B3 := hide (B2.out.trans (hb3.mono B2.out.size))
  have KA3 := hide (KA.out.below hb3 KA.out.lt)
  have KB3 := hide (KB.out.below hb3 KB.out.lt)
  have H3 := hide (H2.out.below hb3)
  have HMLE := hide hml
  clear hob hb3 hml hn MY
  go_wp2_with fail
  refine CC.out.mono ?_
  rintro e w4 ⟨rfl, hb4⟩
  have B4 := hide (B3.out.trans (hb4.mono B3.out.size))
  have KA4 := hide (KA3.out.below hb4 KA3.out.lt)
  have KB4 := hide (KB3.out.below hb4 KB3.out.lt)
  have H4 := hide (H3.out.below hb4)
  obtain ⟨hb, hhb⟩ : ∃ z, hasB ml fr sq = z := ⟨_, rfl⟩
  rw [hhb]
  have HHB : Hid (hasB (mayL l (ls k) ca) fr sq = hb) := hide (by rw [HMLE.out, hhb])
  clear hb4 hhb CC
  cases hb with
  | false =>
    have FE : Hid (matchE l (ls k) ca fr sq = 2 ∧ matchP l ls k ca fr sq = ls ∧ matchQ l (ls k) ca fr sq = l) := hide (by unfold matchE matchP matchQ; rw [HHB.out]; exact ⟨rfl, rfl, rfl⟩)
    go_wp2_with fail
    go_ret
    rw [FE.out.1, FE.out.2.1, FE.out.2.2]
    exact ⟨rfl, GoesPQ.after B4.out (GoesPQ.same H4.out (Below.refl _ _))⟩
  | true =>
    have FE : Hid (matchE l (ls k) ca fr sq = 0 ∧ matchP l ls k ca fr sq = updF ls k (setD (ls k) ca fr sq) ∧ matchQ l (ls k) ca fr sq = takeL l ⟨fr, sq⟩) := hide (by unfold matchE matchP matchQ; rw [HHB.out]; exact ⟨rfl, rfl, rfl⟩)
    have TE := hide (take_may HU.out HHB.out)
    have PC := hide (place_in w4 p L ls H4.out.hp k hk (by have := HLEN.out; omega) ca)
    go_upto_region 7 with (go_at_call 46; refine PC.out.mono ?_; rintro e w5 ⟨i, b, rfl, hf, hb⟩)
    have hbt : b = true := by
      cases b with
      | true => rfl
      | false =>
        obtain ⟨m, hm, _⟩ := hasB_mem HHB.out
        obtain ⟨r, hr, hrc, _⟩ := mayL_mem hm
        exact absurd hrc (hf.2.2 rfl r hr)
    obtain ⟨m, hm, hca⟩ := hf.2.1 hbt
    have B5 := hide (B4.out.trans (hb.mono B4.out.size))
    have KA5 := hide (KA4.out.below hb KA4.out.lt)
    have KB5 := hide (KB4.out.below hb KB4.out.lt)
    have H5 := hide (H4.out.below hb)
    obtain ⟨n2, hn2⟩ : ∃ n, (ls k).length = n := ⟨_, rfl⟩
    have hin : i < n2 := by rw [← hn2]; exact (List.getElem?_eq_some_iff.1 hm).1
    obtain ⟨g, hA, hg, hit⟩ := (H5.out.hp.rrow k hk).it i m hm
    obtain ⟨cap, hcap⟩ : ∃ c, (L k).2 = c := ⟨_, rfl⟩
    have hc : w5.cell? ⟨p, 1 + k, none⟩ = some (.slice (some ⟨g, 0, none⟩) n2 cap) := by rw [← hA, ← hcap, ← hn2]; exact H5.out.hp.at_ k hk
    have hrow := H5.out.hp.row k hk
    unfold slR at hrow
    rw [hn2, hcap, hA] at hrow
    obtain ⟨g', hg', _, _, ⟨bcs, hblk⟩, hfz, hnc, _⟩ := own_cell hrow (by omega)
    cases hg'
    have hi0 : (i : Int) < (n2 : Int) := by omega
    have hi1 : (i : Int) ≤ (cap : Int) := by omega
    have x0 : w5.cell? ⟨X, 0, none⟩ = some (.int .i64 fr) := KA5.out.cell 0
    have y0 : w5.cell? ⟨X + 1, 0, none⟩ = some (.int .i64 sq) := KB5.out.cell 0
    have HHM := hide hm
    have HCA := hide hca
    have HA := hide hA
    have HXL := hide (show X < w5.heap.size ∧ X + 1 < w5.heap.size from ⟨KA5.out.lt, KB5.out.lt⟩)
    have n6 : w5.cell? ⟨g, i * 9 + 6, none⟩ = some (.bool m.dn) := hit 6 _ rfl
    have n7 : w5.cell? ⟨g, i * 9 + 7, none⟩ = some (.int .i64 m.fr) := hit 7 _ rfl
    have n8 : w5.cell? ⟨g, i * 9 + 8, none⟩ = some (.int .i64 m.sq) := hit 8 _ rfl
    have z6 := hfz (i * 9 + 6)
    have z7 := hfz (i * 9 + 7)
    have z8 := hfz (i * 9 + 8)
    clear hf hb PC hm hca hit hrow hblk hfz hA hcap hn2
    go_upto_region 8 with (fail)
    go_region
    obtain ⟨w6, hw6⟩ : ∃ z, ((w5.setCell ⟨g, i * 9 + 6, none⟩ (.bool true)).setCell ⟨g, i * 9 + 7, none⟩ (.int .i64 fr)).setCell ⟨g, i * 9 + 8, none⟩ (.int .i64 sq) = z := ⟨_, rfl⟩
    rw [hw6]
    obtain ⟨P6, C6⟩ := match_set (j := 0) H5.out.hp hk HHM.out HA.out hw6
    rw [HCA.out] at P6
    have hgf : g ∈ pfoot p L := (mem_pfoot ls).2 (.inr ⟨k, hk, own_sl.2 ⟨_, HA.out, rfl⟩⟩)
    have hgX : g < X := by have := HL0.out g (List.mem_append_left _ hgf); have := HX.out; omega
    have Q6 := H5.out.hq.ch C6 (fun b hb => by rw [List.mem_singleton] at hb; subst hb; exact H5.out.ap b hgf)
    have PQ6 := hide (PQ.below ⟨P6, Q6, H5.out.ap⟩ (Below.refl w6.heap.size w6).drew)
    have C7 : Hid (Ch (foot2 p q L K) w w6.drew) := hide (((Ch.of_below B5.out).trans (C6.more fun j hj => .inl (by rw [List.mem_singleton.1 hj]; exact List.mem_append_left _ hgf))).trans (Ch.of_below (Below.refl w6.heap.size w6).drew))
    have u0 : w6.cell? ⟨X, 0, none⟩ = some (.int .i64 fr) := (World.cell?_of_block (w := w5) (w' := w6) (a := ⟨X, 0, none⟩) (C6.block X HXL.out.1 (fun e => by rw [List.mem_singleton] at e; omega))).trans x0
    have v0 : w6.cell? ⟨X + 1, 0, none⟩ = some (.int .i64 sq) := (World.cell?_of_block (w := w5) (w' := w6) (a := ⟨X + 1, 0, none⟩) (C6.block (X + 1) HXL.out.2 (fun e => by rw [List.mem_singleton] at e; omega))).trans y0
    have TC := hide (Take_c PQ6.out.hq ⟨fr, sq⟩ hl)
    clear P6 C6 Q6 hw6 x0 y0 n6 n7 n8 z6 z7 z8 hc hg hgX
    go_wp2_with fail
    refine TC.out.mono ?_
    rintro e w7 ⟨rfl, hgo⟩
    have GO := hide (GoesPQ.step C7.out (GoesPQ.of_q PQ6.out hgo))
    clear hgo TC u0 v0
    rw [TE.out]
    go_wp2_with fail
    go_ret
    rw [FE.out.1, FE.out.2.1, FE.out.2.2]
    exact ⟨rfl, GO.out⟩
end Po
end Go.Proofs.Ytonmojinijpneaa
