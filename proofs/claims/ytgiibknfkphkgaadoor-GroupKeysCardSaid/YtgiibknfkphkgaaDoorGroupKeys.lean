/- The walk of the statement GroupKeys: of any group, any numbers, whatever is asked; without conditions. -/
import Derived.Test.YtgiibknfkphkgaaDoorRows
import Derived.Test.YtgiibknfkphkgaaDoorSpM
import Derived.Test.YtgiibknfkphkgaaDoorSpN
import Derived.Test.YtgiibknfkphkgaaDoorSpO
import Derived.Test.YtgiibknfkphkgaaDoorSpR
import Derived.Test.YtgiibknfkphkgaaDoorSpS
import Derived.Lib.AppendZeros
import Derived.LoopN
import Derived.BigQuiet
namespace Go.Proofs.YtgiibknfkphkgaaDoor.GroupKeysW
open Go Go.Joins Go.ChangeShapes Go.WideShapes Go.RowKit Go.Deep Go.Proofs.YtgiibknfkphkgaaDoor Go.Proofs.YtgiibknfkphkgaaDoor.Grp Go.Proofs.YtgiibknfkphkgaaDoor.Sp
set_option linter.unusedVariables false
set_option linter.unusedSimpArgs false
def kvC (l : List (ByteArray × Value)) : List Value := l.flatMap fun x => [.string x.1, x.2]
theorem kvC_app (a b : List (ByteArray × Value)) : kvC (a ++ b) = kvC a ++ kvC b := by simp [kvC]
theorem kvC_at : ∀ (l : List (ByteArray × Value)) (i : Nat) (hi : i < l.length), (kvC l)[i * 2]? = some (.string l[i].1)
  | t :: l, 0, _ => rfl
  | t :: l, i + 1, hi => by
    have ih := kvC_at l i (by simpa using hi)
    have e : kvC (t :: l) = .string t.1 :: t.2 :: kvC l := rfl
    rw [e, show (i + 1) * 2 = i * 2 + 1 + 1 by omega]
    simpa using ih
def gKv (K : Int → ByteArray) (gs : List Gw) : List (ByteArray × Value) := gs.map fun g => (K g.c, g.v)
theorem gKv_cells (K : Int → ByteArray) (gs : List Gw) : kvC (gKv K gs) = gwCs K gs := by
  unfold kvC gKv gwCs gwC
  rw [List.flatMap_map]
theorem one_cells (K : Int → ByteArray) (gs : List Gw) : ∀ u ∈ gwCs K gs, u.oneCell' = true := by
  intro u hu
  unfold gwCs at hu
  obtain ⟨x, _, hu⟩ := List.mem_flatMap.1 hu
  unfold gwC Gw.v at hu
  simp only [List.mem_cons, List.not_mem_nil, or_false] at hu
  rcases hu with rfl | rfl <;> rfl
/-- The colors of a split's groups. -/
theorem split_cols {q : List (Int × Int)} {l : List Int} {L : List Ak} {gs : List Gw} (hp : L.Perm (askL q l q.length)) (hs : Srt L) (hg : gs.map Gw.p = grpN L L.length) : (gs.map Gw.c).Nodup ∧ (∀ x ∈ gs.map Gw.c, 0 ≤ x) ∧ gs.length ≤ q.length := by
  obtain ⟨P, hb, e, hl⟩ := split_blocks hp hs
  have hc : gs.map Gw.c = P.map hdC := by
    have h := congrArg (List.map Prod.fst) (hg.trans e)
    rw [List.map_map, List.map_map] at h
    exact h
  refine ⟨?_, fun x hx => ?_, ?_⟩
  · rw [hc, List.Nodup, List.pairwise_map]
    exact hb.up.imp fun h e => by omega
  · rw [hc] at hx
    obtain ⟨p, hpP, rfl⟩ := List.mem_map.1 hx
    obtain ⟨y, hy, e⟩ := hdC_mem (hb.ne p hpP)
    rw [← e]
    exact (ask_mem q.length (Nat.le_refl _) y (hp.mem_iff.1 (by rw [← hb.flat]; exact List.mem_flatten.2 ⟨p, hpP, hy⟩))).1
  · have h1 := congrArg List.length hc
    rw [List.length_map, List.length_map] at h1
    have h2 := flat_len P hb.ne
    rw [hb.flat, hp.length_eq] at h2
    have := askL_len q l q.length
    omega
theorem own_new (w : World) (t : TypeId) (size n : Nat) (cs : List Value) (hm : n ≤ maxLen) (hl : cs.length = n * size) : (w.alloc (.cells cs.toArray t)).ownsRow w.heap.size t size (.slice (some ⟨w.heap.size, 0, none⟩) n n) n cs :=
  ⟨hl, .inr ⟨w.heap.size, n, cs.toArray, rfl, Nat.le_refl _, heap_alloc_new w _, Nat.le_refl _, hm, by simp [hl], by rw [← hl]; simp⟩⟩
set_option maxRecDepth 100000 in
set_option maxHeartbeats 16000000 in
theorem walk {H : Type} {enc : TypeId × Value → H} {base : Nat} (W : World) (hP : Pow W) (v0 : Value) (d0 : DataW H) (p0 : List MemPlace) (o0 : Value.okWide Tryd.prog W .any base 24 v0) (r0 : DataW.Trod enc Tryd.prog W 0 (fun _ => true) true 24 v0 d0 p0) (k : Int) (w1 : (Lit.int .i64 k).wf = true) (m : Int) (wm : (Lit.int .i64 m).wf = true) (v2 : Value) (d2 : DataW H) (p2 : List MemPlace) (o2 : Value.okWide Tryd.prog W .any base 25 v2) (r2 : DataW.Trod enc Tryd.prog W 0 (fun _ => true) true 25 v2 d2 p2) :
    Calls Tryd.prog 7 #[v0, .int .i64 k, .int .i64 m, v2] W fun e w' => e = .returned (.bool true) ∧ Below W.heap.size W w' := by
  obtain ⟨key, A, l, cap, rfl, hr⟩ := group_of o0 r0 (fun _ => rfl)
  obtain ⟨B, bc, q, rfl, hqr, hqm, hqf⟩ := asks_of o2 r2
  have hqr : AskR W B q := hqr
  have FK := hide (fit_wf w1)
  have FM := hide (fit_wf wm)
  have FQ := hide (fun x hx => (hqf x hx).1.2)
  clear o0 r0 o2 r2 w1 wm hqf hqm
  have hb1 := (Below.refl W.heap.size W).alloc (Nat.le_refl _) (.cells #[.string key, .slice A l.length cap] 24)
  have b1 := Blk.new W 24 #[.string key, .slice A l.length cap]
  obtain ⟨W1, hW1⟩ : ∃ W1, W.alloc (.cells #[.string key, .slice A l.length cap] 24) = W1 := ⟨_, rfl⟩
  rw [hW1] at hb1 b1
  have AW := hide (awake_c W1 (hP.below hb1 (Nat.le_refl _)))
  have HN := hide (hr.below hb1)
  have HQ := hide (hqr.below hb1)
  have HP := hide (hP.below hb1 (Nat.le_refl _))
  have HB1 := hide hb1
  have B1 := hide b1
  clear hb1 b1 hr hP hqr
  go_enter Tryd.func7, Tryd.ntmps7
  go_wp2_with fail
  refine AW.out.mono ?_
  rintro e w2 ⟨rfl, hb2⟩
  have HB2 := hide hb2
  have b2 := B1.out.below hb2 B1.out.lt
  have q0 : w2.cell? ⟨W.heap.size, 0, none⟩ = some (.string key) := b2.cell 0
  have q1 : w2.cell? ⟨W.heap.size, 1, none⟩ = some (.slice A l.length cap) := b2.cell 1
  have GR := hide (Great_a key A l.length cap w2)
  clear hb2 b2 AW
  go_wp2_with fail
  refine GR.out.mono ?_
  rintro e w3 ⟨rfl, hb3⟩
  have HB3 := hide (HB2.out.trans (hb3.mono HB2.out.size))
  have b3 := B1.out.below HB3.out B1.out.lt
  have x0 : w3.cell? ⟨W.heap.size, 0, none⟩ = some (.string key) := b3.cell 0
  have x1 : w3.cell? ⟨W.heap.size, 1, none⟩ = some (.slice A l.length cap) := b3.cell 1
  clear hb3 b3 q0 q1 GR
  cases hg : gt key l.length with
  | true =>
    clear hg
    go_wp2_with fail
    go_ret
    exact ⟨rfl, HB1.out.trans (HB3.out.mono HB1.out.size)⟩
  | false =>
  have hrl : l.length ≤ 80 ∧ key.size ≤ 200 := by
    unfold gt at hg
    simp at hg
    omega
  have HRL := hide hrl
  clear hg hrl
  by_cases hq100 : 100 < q.length
  · have hI : (100 : Int) < (q.length : Int) := by omega
    clear hq100
    go_wp2_with fail
    go_ret
    exact ⟨rfl, HB1.out.trans (HB3.out.mono HB1.out.size)⟩
  have hI : ¬ (100 : Int) < (q.length : Int) := by omega
  have HQL := hide (show q.length ≤ 100 by omega)
  by_cases hkm : k = m
  · have hkI : (k == m) = true := by simp [hkm]
    subst hkm
    clear hq100
    go_wp2_with fail
    go_ret
    exact ⟨rfl, HB1.out.trans (HB3.out.mono HB1.out.size)⟩
  have hkI : (k == m) = false := by rw [beq_eq_false_iff_ne]; exact hkm
  have HKM := hide hkm
  have SC := hide (Split_c key A cap l k B bc q w3 (HN.out.below HB3.out) (HQ.out.below HB3.out) (by have := HRL.out.1; omega) (by omega) (HP.out.below HB3.out (Nat.le_refl _)) (by have := HRL.out.2; omega) FK.out.2 FQ.out)
  clear hq100 hkm
  go_wp2_with fail
  clear hI hkI
  refine SC.out.mono ?_
  rintro e w5 ⟨h5, hb5⟩
  have HB5 := hide (HB3.out.trans (hb5.mono HB3.out.size))
  have b5 := B1.out.below HB5.out B1.out.lt
  have q0 : w5.cell? ⟨W.heap.size, 0, none⟩ = some (.string key) := b5.cell 0
  have q1 : w5.cell? ⟨W.heap.size, 1, none⟩ = some (.slice A l.length cap) := b5.cell 1
  have SC2 := hide (Split_c key A cap l m B bc q w5 (HN.out.below HB5.out) (HQ.out.below HB5.out) (by have := HRL.out.1; omega) (by have := HQL.out; omega) (HP.out.below HB5.out (Nat.le_refl _)) (by have := HRL.out.2; omega) FM.out.2 FQ.out)
  clear hb5 b5 x0 x1 SC
  rcases h5 with ⟨hbad, rfl⟩ | ⟨hgood, L', O, oc, gs, B0, rfl, hperm, hsrt, hgs, hout, hB0⟩
  · clear hbad
    go_wp2_with fail
    refine SC2.out.mono ?_
    rintro e w6 ⟨h6, hb6⟩
    have HB6 := hide (HB5.out.trans (hb6.mono HB5.out.size))
    clear hb6 q0 q1
    rcases h6 with ⟨_, rfl⟩ | ⟨_, _, _, _, _, _, rfl, _⟩
    · go_wp2_with fail
      go_ret
      exact ⟨rfl, HB1.out.trans (HB6.out.mono HB1.out.size)⟩
    · go_wp2_with fail
      go_ret
      exact ⟨rfl, HB1.out.trans (HB6.out.mono HB1.out.size)⟩
  obtain ⟨hcn, hc0, hgl⟩ := split_cols hperm hsrt hgs
  have HCN := hide hcn
  have HC0 := hide hc0
  have HGL := hide hgl
  have HRO := hide (show Reads w5 w5.heap.size 2 O gs.length (gwCs (keyK key k) gs) from Reads.of_own hout.row)
  have HGD := hide hgood
  clear hcn hc0 hgl hperm hsrt hgs hout hB0 hgood
  go_wp2_with fail
  refine SC2.out.mono ?_
  rintro e w6 ⟨h6, hb6⟩
  have HB6 := hide (HB5.out.trans (hb6.mono HB5.out.size))
  have HRO6 := hide (HRO.out.below hb6)
  have HS56 := hide hb6.size
  have b6 := B1.out.below HB6.out B1.out.lt
  have x0 : w6.cell? ⟨W.heap.size, 0, none⟩ = some (.string key) := b6.cell 0
  have x1 : w6.cell? ⟨W.heap.size, 1, none⟩ = some (.slice A l.length cap) := b6.cell 1
  clear hb6 b6 q0 q1 SC2 HRO
  rcases h6 with ⟨hbad, rfl⟩ | ⟨hgood, L2, O2, oc2, gs2, B2, rfl, hperm, hsrt, hgs, hout, hB2⟩
  · clear hbad
    go_wp2_with fail
    go_ret
    exact ⟨rfl, HB1.out.trans (HB6.out.mono HB1.out.size)⟩
  obtain ⟨hcn, hc0, hgl⟩ := split_cols hperm hsrt hgs
  have HCN2 := hide hcn
  have HC02 := hide hc0
  have HGL2 := hide hgl
  have HRP := hide (show Reads w6 w6.heap.size 2 O2 gs2.length (gwCs (keyK key m) gs2) from Reads.of_own hout.row)
  have HK0 := hide (show 0 ≤ k by
    by_cases h : k < 0
    · exact absurd (.inr (.inl h)) HGD.out
    · omega)
  have HM0 := hide (show 0 ≤ m by
    by_cases h : m < 0
    · exact absurd (.inr (.inl h)) hgood
    · omega)
  have HMAY := hide (show mayL l by
    by_cases h : mayL l
    · exact h
    · exact absurd (.inl h) hgood)
  have DC := hide (Dup_c key A cap l k w6 (HN.out.below HB6.out) (by have := HRL.out.1; omega) (HP.out.below HB6.out (Nat.le_refl _)) (by have := HRL.out.2; omega) FK.out.2)
  clear hcn hc0 hgl hperm hsrt hgs hout hB2 hgood HGD
  go_wp2_with fail
  refine DC.out.mono ?_
  rintro e w7 ⟨h7, hb7⟩
  obtain ⟨_, g7, rfl, _, _⟩ := h7.resolve_left (fun h => by
    rcases h.1 with h | h
    · exact h HMAY.out
    · have := HK0.out; omega)
  obtain ⟨hbk, hbx⟩ := box2 w7 24 (.string ⟨#[]⟩) (.slice none 0 0) (.string (behindS key k)) (.slice (some ⟨g7, 0, none⟩) l.length l.length)
  have bz := Blk.new w7 24 #[.string ⟨#[]⟩, .slice none 0 0]
  obtain ⟨Wa, hWa⟩ : ∃ x, w7.alloc (.cells #[.string ⟨#[]⟩, .slice none 0 0] 24) = x := ⟨_, rfl⟩
  rw [hWa] at hbk hbx bz
  have z0 : Wa.cell? ⟨w7.heap.size, 0, none⟩ = some (.string ⟨#[]⟩) := bz.cell 0
  have z1 : Wa.cell? ⟨w7.heap.size, 1, none⟩ = some (.slice none 0 0) := bz.cell 1
  have f0 := bz.frozen 0
  have f1 := bz.frozen 1
  obtain ⟨w8, hw8⟩ : ∃ x, (Wa.setCell ⟨w7.heap.size, 0, none⟩ (.string (behindS key k))).setCell ⟨w7.heap.size, 1, none⟩ (.slice (some ⟨g7, 0, none⟩) l.length l.length) = x := ⟨_, rfl⟩
  rw [hw8] at hbk hbx
  have hb68 := hb7.trans (hbx.mono hb7.size)
  have HQ8 := hide hb68
  have HB8 := hide (HB6.out.trans (hb68.mono HB6.out.size))
  have HX8 := hide hbk
  have b8 := B1.out.below HB8.out B1.out.lt
  have q0 : w8.cell? ⟨W.heap.size, 0, none⟩ = some (.string key) := b8.cell 0
  have q1 : w8.cell? ⟨W.heap.size, 1, none⟩ = some (.slice A l.length cap) := b8.cell 1
  have DC2 := hide (Dup_c key A cap l m w8 (HN.out.below HB8.out) (by have := HRL.out.1; omega) (HP.out.below HB8.out (Nat.le_refl _)) (by have := HRL.out.2; omega) FM.out.2)
  clear hbk hbx bz hb7 hb68 b8 h7 x0 x1 DC
  go_wp2_with fail
  refine DC2.out.mono ?_
  rintro e w9 ⟨h9, hb9⟩
  obtain ⟨_, g9, rfl, _, _⟩ := h9.resolve_left (fun h => by
    rcases h.1 with h | h
    · exact h HMAY.out
    · have := HM0.out; omega)
  obtain ⟨hbk, hbx⟩ := box2 w9 24 (.string ⟨#[]⟩) (.slice none 0 0) (.string (behindS key m)) (.slice (some ⟨g9, 0, none⟩) l.length l.length)
  have bz := Blk.new w9 24 #[.string ⟨#[]⟩, .slice none 0 0]
  obtain ⟨Wb, hWb⟩ : ∃ x, w9.alloc (.cells #[.string ⟨#[]⟩, .slice none 0 0] 24) = x := ⟨_, rfl⟩
  rw [hWb] at hbk hbx bz
  have y0 : Wb.cell? ⟨w9.heap.size, 0, none⟩ = some (.string ⟨#[]⟩) := bz.cell 0
  have y1 : Wb.cell? ⟨w9.heap.size, 1, none⟩ = some (.slice none 0 0) := bz.cell 1
  have e0 := bz.frozen 0
  have e1 := bz.frozen 1
  obtain ⟨wc, hwc⟩ : ∃ x, (Wb.setCell ⟨w9.heap.size, 0, none⟩ (.string (behindS key m))).setCell ⟨w9.heap.size, 1, none⟩ (.slice (some ⟨g9, 0, none⟩) l.length l.length) = x := ⟨_, rfl⟩
  rw [hwc] at hbk hbx
  have hb8c := hb9.trans (hbx.mono hb9.size)
  have HQc := hide (HQ8.out.trans (hb8c.mono HQ8.out.size))
  have HBc := hide (HB8.out.trans (hb8c.mono HB8.out.size))
  have hx8 := HX8.out.below hb8c HX8.out.lt
  have t0 : wc.cell? ⟨w7.heap.size, 0, none⟩ = some (.string (behindS key k)) := hx8.cell 0
  have t1 : wc.cell? ⟨w7.heap.size, 1, none⟩ = some (.slice (some ⟨g7, 0, none⟩) l.length l.length) := hx8.cell 1
  have t2 : wc.cell? ⟨w9.heap.size, 0, none⟩ = some (.string (behindS key m)) := hbk.cell 0
  have t3 : wc.cell? ⟨w9.heap.size, 1, none⟩ = some (.slice (some ⟨g9, 0, none⟩) l.length l.length) := hbk.cell 1
  -- all groups in one row
  have hnew := own_new wc 24 2 2 [.string (behindS key k), .slice (some ⟨g7, 0, none⟩) l.length l.length, .string (behindS key m), .slice (some ⟨g9, 0, none⟩) l.length l.length] (by unfold maxLen; omega) rfl
  have hball := (Below.refl wc.heap.size wc).alloc (Nat.le_refl _) (.cells #[.string (behindS key k), .slice (some ⟨g7, 0, none⟩) l.length l.length, .string (behindS key m), .slice (some ⟨g9, 0, none⟩) l.length l.length] 24)
  have hnew : (wc.alloc (.cells #[.string (behindS key k), .slice (some ⟨g7, 0, none⟩) l.length l.length, .string (behindS key m), .slice (some ⟨g9, 0, none⟩) l.length l.length] 24)).ownsRow wc.heap.size 24 2 (.slice (some ⟨wc.heap.size, 0, none⟩) 2 2) 2 [.string (behindS key k), .slice (some ⟨g7, 0, none⟩) l.length l.length, .string (behindS key m), .slice (some ⟨g9, 0, none⟩) l.length l.length] := hnew
  obtain ⟨wd, hwd⟩ : ∃ x, wc.alloc (.cells #[.string (behindS key k), .slice (some ⟨g7, 0, none⟩) l.length l.length, .string (behindS key m), .slice (some ⟨g9, 0, none⟩) l.length l.length] 24) = x := ⟨_, rfl⟩
  rw [hwd] at hnew hball
  have hr1 : Reads wd w6.heap.size 2 O gs.length (gwCs (keyK key k) gs) := (((HRO6.out.more HS56.out).below HQc.out).below (hball.mono HQc.out.size))
  have hr2 : Reads wd w6.heap.size 2 O2 gs2.length (gwCs (keyK key m) gs2) := ((HRP.out.below HQc.out).below (hball.mono HQc.out.size))
  have hg100 : gs.length ≤ 100 := by have := HGL.out; have := HQL.out; omega
  have hg200 : gs2.length ≤ 100 := by have := HGL2.out; have := HQL.out; omega
  obtain ⟨i0, hi0, hz0, hz1, hz2⟩ := info_parts gr_info
  have hwd6 : w6.heap.size ≤ wc.heap.size := HQc.out.size
  obtain ⟨va, we, hrun1, hown1, hgr1, _⟩ := run_append_any (P := Tryd.prog) wd wc.heap.size 33 33 24 i0 _ 2 40 Tryd.underlying33 hi0 hz0 hz1 hz2 (by rfl) (by omega) _ _ _ hnew w6.heap.size O gs.length oc _ hr1 (one_cells _ gs) (by unfold maxLen; omega) (by omega) hball.size
  have hr3 : Reads we w6.heap.size 2 O2 gs2.length (gwCs (keyK key m) gs2) := hr2.grown hgr1 (by have := hball.size; omega) (fun g e => by have := (own_block hnew e).1; omega)
  obtain ⟨vb, wf, hrun2, hown2, hgr2, _⟩ := run_append_any (P := Tryd.prog) we wc.heap.size 33 33 24 i0 _ 2 40 Tryd.underlying33 hi0 hz0 hz1 hz2 (by rfl) (by omega) _ _ _ hown1 w6.heap.size O2 gs2.length oc2 _ hr3 (one_cells _ gs2) (by unfold maxLen; omega) (by omega) (by have := hball.size; have := hgr1.size; omega)
  obtain ⟨vA, vac, rfl⟩ := own_form hown1
  obtain ⟨vB, vbc, rfl⟩ := own_form hown2
  have hbe : Below wc.heap.size wc we := (hball.mono (Nat.le_refl _)).grown hgr1 hball.size (fun g e => (own_block hnew e).1)
  have hbf : Below wc.heap.size wc wf := hbe.grown hgr2 hbe.size (fun g e => (own_block hown1 e).1)
  have RUN1 := hide hrun1
  have RUN2 := hide hrun2
  have HBF := hide (HBc.out.trans (hbf.mono HBc.out.size))
  have hN : 2 + gs.length + gs2.length ≤ 202 := by omega
  obtain ⟨N, hNe⟩ : ∃ N, 2 + gs.length + gs2.length = N := ⟨_, rfl⟩
  have hcells : [Value.string (behindS key k), .slice (some ⟨g7, 0, none⟩) l.length l.length, .string (behindS key m), .slice (some ⟨g9, 0, none⟩) l.length l.length] ++ gwCs (keyK key k) gs ++ gwCs (keyK key m) gs2 = kvC ([(behindS key k, .slice (some ⟨g7, 0, none⟩) l.length l.length), (behindS key m, .slice (some ⟨g9, 0, none⟩) l.length l.length)] ++ gKv (keyK key k) gs ++ gKv (keyK key m) gs2) := by
    rw [kvC_app, kvC_app, gKv_cells, gKv_cells]
    rfl
  rw [hcells] at hown2
  obtain ⟨kv, hkv⟩ : ∃ x, [(behindS key k, Value.slice (some ⟨g7, 0, none⟩) l.length l.length), (behindS key m, .slice (some ⟨g9, 0, none⟩) l.length l.length)] ++ gKv (keyK key k) gs ++ gKv (keyK key m) gs2 = x := ⟨_, rfl⟩
  have hks : kv.map Prod.fst = (ksK k m (gs.map Gw.c) (gs2.map Gw.c)).map (fun s => key ++ bytes s) := by
    rw [← hkv]
    unfold ksK gKv
    simp only [List.map_append, List.map_map, List.map_cons, List.map_nil, behind_sf]
    congr 1
    · congr 1
      apply List.map_congr_left
      intro x _
      exact key_sf key k x.c
    · apply List.map_congr_left
      intro x _
      exact key_sf key m x.c
  have hnd : (ksK k m (gs.map Gw.c) (gs2.map Gw.c)).Nodup := ks_nodup HK0.out HM0.out HKM.out HCN.out HCN2.out HC0.out HC02.out
  have hkl : kv.length = N := by
    rw [← hNe, ← hkv]
    unfold gKv
    simp
    omega
  rw [hkv, hNe] at hown2
  have KS := hide (fun (i : Nat) (hi : i < kv.length) => show ∃ s : List UInt8, 0 < s.length ∧ kv[i].1 = key ++ bytes s by
    have h1 : (kv.map Prod.fst)[i]? = some kv[i].1 := by rw [List.getElem?_map, List.getElem?_eq_getElem hi]; rfl
    rw [hks, List.getElem?_map] at h1
    obtain ⟨s, hs, e⟩ := Option.map_eq_some_iff.1 h1
    exact ⟨s, sf_pos s (List.mem_of_getElem? hs), e.symm⟩)
  have KN := hide (fun (i j : Nat) (hij : j < i) (hi : i < kv.length) => show kv[j].1 ≠ kv[i].1 from fun e => by
    have h1 : (kv.map Prod.fst)[i]? = some kv[i].1 := by rw [List.getElem?_map, List.getElem?_eq_getElem hi]; rfl
    have h2 : (kv.map Prod.fst)[j]? = some kv[j].1 := by rw [List.getElem?_map, List.getElem?_eq_getElem (by omega)]; rfl
    rw [hks, List.getElem?_map] at h1 h2
    obtain ⟨s, hs, e1⟩ := Option.map_eq_some_iff.1 h1
    obtain ⟨t, ht, e2⟩ := Option.map_eq_some_iff.1 h2
    have hst : s = t := key_inj (e1.trans (e.symm.trans e2.symm))
    subst hst
    have := (List.getElem?_inj (List.getElem?_eq_some_iff.1 hs).1 hnd).1 (hs.trans ht.symm)
    omega)
  obtain ⟨o, hO, _, _, ⟨cso, hOb⟩, _, _, hOc⟩ := own_cell hown2 (by omega)
  subst hO
  have CC := hide (fun (i : Nat) (hi : i < kv.length) (w' : World) (hb : Below wf.heap.size wf w') => (hb.cell (p := ⟨o, i * 2, none⟩) hOb.lt).trans (hOc _ _ (kvC_at kv i hi)))
  have HKL := hide hkl
  have hN2 : N ≤ 202 := by omega
  have KSZ := hide (show key.size ≤ 200 from HRL.out.2)
  have hNN : ((2 + gs.length + gs2.length : Nat) : Int) = (N : Int) := by rw [hNe]
  rw [hNe] at RUN2
  clear hr1 hr2 hr3 hrun1 hrun2 hown1 hown2 hgr1 hgr2 hbe hbf hi0 hz0 hz1 hz2 hnew hball hcells hkv hks hnd hkl hOb hOc hbk hbx bz hx8 hb9 hb8c h9 z0 z1 f0 f1 q0 q1 DC2 hNe hNN hN hwd6
  go_wp2_with (at_builtin; first
    | refine Lib.wpList_append_run _ rfl (.tmp 75) (.tmp 76) _ _ rfl _ _ rfl rfl _ _ RUN1.out ?_
    | refine Lib.wpList_append_run _ rfl (.tmp 77) (.tmp 78) _ _ rfl _ _ rfl rfl _ _ RUN2.out ?_)
  clear t0 t1 t2 t3 y0 y1 e0 e1 RUN1 RUN2
  go_loopw [18] (fun vi wr => ∃ (i : Nat), i ≤ N ∧ vi = .int .i64 i ∧ Hid (Below wf.heap.size wf wr)) (fun vi _ => N - (RowKit.intOf vi).toNat)
  case atStart => exact ⟨0, Nat.zero_le _, rfl, hide (Below.refl _ _)⟩
  case round =>
    obtain ⟨i, hi, rfl, HB⟩ := hrel
    rename World => wr
    by_cases hlt : i < N
    rotate_left
    · have hltI : ¬ (i : Int) < (N : Int) := by omega
      go_wp2_with fail
      go_ret
      exact ⟨rfl, HB1.out.trans ((HBF.out.trans (HB.out.mono HBF.out.size)).mono HB1.out.size)⟩
    have hltI : (i : Int) < (N : Int) := by omega
    have hik : i < kv.length := by have := HKL.out; omega
    have c0 := CC.out i hik wr HB.out
    obtain ⟨s, hs0, hse⟩ := KS.out i hik
    have hsz : key.size < kv[i].1.size := by rw [hse, ByteArray.size_append, bytes_size]; omega
    have hex : kv[i].1.extract 0 key.size = key := by rw [hse]; exact key_pre key s
    have KI := hide (fun (j : Nat) (hj : j < i) => KN.out i j hj hik)
    have br := B1.out.below (HBF.out.trans (HB.out.mono HBF.out.size)) B1.out.lt
    have q0 : wr.cell? ⟨W.heap.size, 0, none⟩ = some (.string key) := br.cell 0
    obtain ⟨z, hz⟩ : ∃ z, kv[i].1 = z := ⟨_, rfl⟩
    rw [hz] at c0 hsz hex KI
    have hd1 : decide ((z.size : Int) ≤ (key.size : Int)) = false := decide_eq_false (by omega)
    have hd2 : decide (z.size ≤ key.size) = false := decide_eq_false (by omega)
    have hle : key.size ≤ z.size := by omega
    have hxx : (key.toList != key.toList) = false := by simp
    clear hse hs0 hz br
    go_wp2_with fail
    go_quiet (fail)
    rename Nat => nq
    clear hd1 hd2 hle hxx hex q0 c0
    go_wp2_with fail
    have HBq := hide (below_drewN HB.out nq)
    obtain ⟨wq, hwq⟩ : ∃ x, wr.drewN nq = x := ⟨_, rfl⟩
    rw [hwq] at HBq ⊢
    clear hwq
    go_loopw [20] (fun vj ws => ∃ (j : Nat), j ≤ i ∧ vj = .int .i64 j ∧ Hid (Below wf.heap.size wf ws)) (fun vj _ => i - (RowKit.intOf vj).toNat)
    case atStart => exact ⟨0, Nat.zero_le _, rfl, HBq⟩
    case round =>
      clear HBq
      obtain ⟨j, hj, rfl, HBq⟩ := hrel
      rename World => ws
      by_cases hjl : j < i
      · have hjI : (j : Int) < (i : Int) := by omega
        have hjN : (j : Int) < (N : Int) := by omega
        have hjk : j < kv.length := by omega
        have c0 := CC.out j hjk _ HBq.out
        have hne := KI.out j hjl
        obtain ⟨y, hy⟩ : ∃ y, kv[j].1 = y := ⟨_, rfl⟩
        rw [hy] at c0 hne
        have hyz : (y.toList == z.toList) = false := by rw [str_eq_dec]; exact decide_eq_false hne
        clear hne hy
        go_wp2_with fail
        go_roundw
        case rel => exact ⟨j + 1, by omega, by go_num, HBq⟩
        case measure => simp [RowKit.intOf] <;> omega
      · have hjI : ¬ (j : Int) < (i : Int) := by omega
        go_wp2_with fail
        go_roundw
        case rel => exact ⟨i + 1, by omega, by go_num, HBq⟩
        case measure => simp [RowKit.intOf] <;> omega
end Go.Proofs.YtgiibknfkphkgaaDoor.GroupKeysW
