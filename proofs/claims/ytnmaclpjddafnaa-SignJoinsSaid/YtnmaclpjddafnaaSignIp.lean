/- slices.Insert at choices, one value: its three roads. -/
import Derived.Test.YtnmaclpjddafnaaRows
import Derived.Test.YtnmaclpjddafnaaSignIn
namespace Go.Proofs.Ytnmaclpjddafnaa
open Go.RowKit
set_option linter.unusedVariables false
set_option linter.unusedSimpArgs false
theorem blk_shape {w : World} {g : Nat} {t : TypeId} {cs : Array Value} (h : Blk w g t cs) : w.shape? g = some (t, cs.size) := by
  unfold Blk at h
  simp [World.shape?, h]
theorem setCells_far {g b : Nat} (hne : b ≠ g) {t : TypeId} {cs : Array Value} : ∀ (vs : List Value) (o : Nat) {w : World}, Blk w b t cs → Blk (w.setCells g o vs) b t cs
  | [], _, _, h => h
  | v :: r, o, w, h => setCells_far hne r (o + 1) (h.far (p := ⟨g, o, none⟩) hne v)
/-- What is told. -/
def InsR (B : Nat) (w : World) (l : List Ch) (i : Nat) (x : Ch) (e : Ending) (w' : World) : Prop :=
  ∃ v, e = .returned v ∧ w'.ownsRow B 24 5 v (l.length + 1) (chs (l.take i ++ x :: l.drop i)) ∧ Below B w w'
set_option maxRecDepth 100000 in
set_option maxHeartbeats 4000000 in
theorem insert_end (a : Option Addr) (c : Nat) (l : List Ch) (x : Ch) (xb : Nat) (B : Nat) (w : World) (hl : l.length ≤ 1000000) (hown : w.ownsRow B 24 5 (.slice a l.length c) l.length (chs l)) (hB : B ≤ w.heap.size) (hx : Blk w xb 24 (chC x).toArray) (hxb : xb < w.heap.size) :
    Calls Try.prog 22 #[.slice a l.length c, .int .i64 l.length, .slice (some ⟨xb, 0, none⟩) 1 1] w fun e w' => InsR B w l l.length x e w' := by
  obtain ⟨i0, hi0, hz0, hz1, hz2⟩ := info_parts ch_info
  have HI := hide (And.intro hi0 (And.intro hz0 (And.intro hz1 hz2)))
  have Own := hide hown
  have RD : Hid (Reads w w.heap.size 5 (some ⟨xb, 0, none⟩) 1 (chC x)) := hide ⟨rfl, fun _ => ⟨_, rfl, hxb, fun j u hj => by
    rw [add_lit, hx.cell j]
    simpa using hj⟩⟩
  have HO := hide (show ∀ u ∈ chC x, u.oneCell' = true by simp [chC, Value.oneCell'])
  have hBw := hide hB
  have hcn : l.length ≤ c := by
    rcases hown.2 with ⟨h, h0⟩ | ⟨g, cap, cur, h, _, _, h1, _⟩
    · injection h with _ h1 h2; omega
    · injection h with _ h2 h3; omega
  have E : Hid (chs (l.take l.length ++ x :: l.drop l.length) = chs l ++ chC x) := hide (by rw [List.take_length, List.drop_length, chs_app, chs_one])
  have hcm : c ≤ 9223372036854775807 := by
    rcases hown.2 with ⟨h, h0⟩ | ⟨g, cap, cur, h, _, _, h1, h2, _⟩
    · injection h with _ h1 h2; omega
    · injection h with _ h3 h4; unfold maxLen at h2; omega
  clear hi0 hz0 hz1 hz2 hown hB hx hxb
  by_cases hcl : c = l.length
  · subst hcl
    go_enter Try.func22, Try.ntmps22
    go_wp2_with (at_builtin; refine wpList_append_any _ rfl _ _ 22 rfl B 24 i0 chZ 5 40 Try.underlying22 HI.out.1 HI.out.2.1 HI.out.2.2.1 HI.out.2.2.2 rfl (by decide) (.slice a l.length l.length) l.length (chs l) rfl Own.out w.heap.size (some ⟨xb, 0, none⟩) 1 1 _ rfl RD.out HO.out ?k1 ?k2 ?k3 ?_)
    case k1 => unfold maxLen; omega
    case k2 => omega
    case k3 => exact hBw.out
    intro v' w1 hown' hgrow _
    have Own1 := hide hown'
    have HG := hide hgrow
    clear hown' hgrow
    go_wp2_with fail
    go_ret
    exact ⟨_, rfl, by rw [E.out]; exact Own1.out, (Below.refl _ _).grown HG.out hBw.out (fun k hk => (own_ltS Own.out hk).1)⟩
  · go_enter Try.func22, Try.ntmps22
    go_wp2_with (at_builtin; refine wpList_append_any _ rfl _ _ 22 rfl B 24 i0 chZ 5 40 Try.underlying22 HI.out.1 HI.out.2.1 HI.out.2.2.1 HI.out.2.2.2 rfl (by decide) (.slice a l.length c) l.length (chs l) rfl Own.out w.heap.size (some ⟨xb, 0, none⟩) 1 1 _ rfl RD.out HO.out ?k1 ?k2 ?k3 ?_)
    case k1 => unfold maxLen; omega
    case k2 => omega
    case k3 => exact hBw.out
    intro v' w1 hown' hgrow _
    have Own1 := hide hown'
    have HG := hide hgrow
    clear hown' hgrow
    go_wp2_with fail
    go_ret
    exact ⟨_, rfl, by rw [E.out]; exact Own1.out, (Below.refl _ _).grown HG.out hBw.out (fun k hk => (own_ltS Own.out hk).1)⟩
set_option maxRecDepth 100000 in
set_option maxHeartbeats 4000000 in
theorem insert_room (g c i : Nat) (cur : Array Value) (l : List Ch) (x : Ch) (xb : Nat) (B : Nat) (w : World) (hi : i < l.length) (hl : l.length ≤ 1000000) (hc : l.length + 1 ≤ c) (hcm : c ≤ maxLen) (hg : Blk w g 24 cur) (hsz : cur.size = c * 5) (ht : cur.toList.take (l.length * 5) = chs l) (hBg : B ≤ g)
    (hx : Blk w xb 24 (chC x).toArray) (hne : xb ≠ g) :
    Calls Try.prog 22 #[.slice (some ⟨g, 0, none⟩) l.length c, .int .i64 i, .slice (some ⟨xb, 0, none⟩) 1 1] w fun e w' => InsR B w l i x e w' := by
  obtain ⟨i0, hi0, hz0, hz1, hz2⟩ := info_parts ch_info
  have hinf : (Try.prog.info? 24).map (·.size) = some 5 := by rw [hi0]; simp [hz1]
  have hov : ∀ lb cb, (callFunc 30 #[.slice (some ⟨xb, 0, none⟩) 1 1, .slice (some ⟨g, (i + 1) * 5, none⟩) lb cb]).run Try.prog w = .ok (.value (.bool false)) w := fun lb cb => by
    rw [run_callFunc_extern Try.func30 (by kernel_rfl) (by kernel_rfl) (by kernel_rfl) (e := Extern.SlicesOverlaps.overlaps #[22, 22] #[4]) (by kernel_rfl),
      Lib.run_overlaps_apart w 22 4 24 Try.underlying22 5 (fun w => by simp [sizeOf, typeInfo, hi0, hz1]) ⟨xb, 0, none⟩ ⟨g, (i + 1) * 5, none⟩ 1 1 lb cb hne 24 24 5 cur.size (blk_shape hx) (blk_shape hg) (by omega) (hx.frozen _) (hx.frozen _)]
    rfl
  have hcsA : ∀ j v, (chs l)[j]? = some v → w.cell? ⟨g, j, none⟩ = some v := fun j v hj => by
    rw [hg.cell]
    rw [← ht, List.getElem?_take] at hj
    split at hj
    · simpa using hj
    · cases hj
  have hdl : (chs (l.drop i)).length = (l.length - i) * 5 := by rw [chs_len, List.length_drop]
  have hcp1 : ∀ ty dc sc, (Builtin.copy_ #[22, 22] ty #[.slice (some ⟨g, (i + 1) * 5, none⟩) (l.length - i) dc, .slice (some ⟨g, i * 5, none⟩) (l.length + 1 - i) sc]).run Try.prog w.drew = .ok (goInt ((l.length - i : Nat) : Int)) (w.drew.setCells g ((i + 1) * 5) (chs (l.drop i))) := fun ty dc sc =>
    run_copy_cells5 w.drew _ _ ty 24 g ((i + 1) * 5) (l.length - i) dc ⟨g, i * 5, none⟩ (l.length + 1 - i) sc (l.length - i) (chs (l.drop i)) Try.underlying22 hinf (by simp only [Nat.min_def]; split <;> omega) hdl
      (fun j v hj => by
        rw [Addr.add_lit]
        refine hcsA (i * 5 + j) v ?_
        rw [← chs_drop, List.getElem?_drop] at hj
        exact hj)
      (fun j hj => by
        have : w.drew.cell? ⟨g, (i + 1) * 5 + j, none⟩ = cur[(i + 1) * 5 + j]? := hg.cell _
        rw [this, Array.getElem?_eq_getElem (by omega)]; rfl)
      (fun j hj => hg.frozen _) (chs_one' _)
  obtain ⟨W1, hW1⟩ : ∃ W1, W1 = w.drew.setCells g ((i + 1) * 5) (chs (l.drop i)) := ⟨_, rfl⟩
  have bk1 : Blk W1 g 24 (setAll cur ((i + 1) * 5) (chs (l.drop i))) := by rw [hW1]; exact setAll_blk _ _ hg.drew
  have bx1 : Blk W1 xb 24 (chC x).toArray := by
    rw [hW1]
    exact setCells_far hne _ _ hx.drew
  have hcp2 : ∀ (W : World), (∀ y, W.cell? y = W1.cell? y) → (∀ y, W.frozen? y = W1.frozen? y) → ∀ ty dc, (Builtin.copy_ #[22, 22] ty #[.slice (some ⟨g, i * 5, none⟩) (l.length + 1 - i) dc, .slice (some ⟨xb, 0, none⟩) 1 1]).run Try.prog W = .ok (goInt 1) (W.setCells g (i * 5) (chC x)) := fun W hWc hWf ty dc =>
    run_copy_cells5 W _ _ ty 24 g (i * 5) (l.length + 1 - i) dc ⟨xb, 0, none⟩ 1 1 1 (chC x) Try.underlying22 hinf (by simp only [Nat.min_def]; split <;> omega) rfl
      (fun j v hj => by rw [add_lit, hWc, bx1.cell]; simpa using hj)
      (fun j hj => by
        rw [chC_len] at hj
        rw [hWc, bk1.cell, Array.getElem?_eq_getElem (by rw [setAll_size]; omega)]; rfl)
      (fun j hj => by rw [hWf]; exact bk1.frozen _) (by simp [chC, Value.oneCell'])
  rw [← hW1] at hcp1
  have hb1 : i ≤ l.length := by omega
  have hb4 : ¬ (c = i) := by omega
  have hb2 : ¬ (c = i + 1) := by omega
  have FIN := hide (fun (w' : World) (hb : Blk w' g 24 (setAll (setAll cur ((i + 1) * 5) (chs (l.drop i))) (i * 5) (chC x))) (hbel : Below B w w') => show InsR B w l i x (.returned (.slice (some ⟨g, 0, none⟩) (l.length + 1) c)) w' from
    ⟨_, rfl, ⟨by rw [chs_len, List.length_append, List.length_cons, List.length_take, List.length_drop]; omega, .inr ⟨g, c, _, rfl, hBg, hb, hc, hcm, by rw [setAll_size, setAll_size]; exact hsz, ins_room cur l i c x hi hc hsz ht⟩⟩, hbel⟩)
  have BW := hide (show Below B w W1 by rw [hW1]; exact below_setCells hBg _ _ (Below.refl B w).drew)
  have BK := hide bk1
  unfold maxLen at hcm
  clear hg hx ht hdl bk1 bx1 hW1
  go_enter Try.func22, Try.ntmps22
  go_wp2_with (simp only [hov])
  have hw1 : IntKind.i64.wrap ((i : Int) + 1) = (i : Int) + 1 := by rw [IntKind.wrap_i64]; omega
  have hw2 : (0 : Int) ≤ (i : Int) + 1 := by omega
  have htn : ((i : Int) + 1).toNat = i + 1 := by omega
  have hw3 : (i : Int) + 1 ≤ (l.length : Int) + 1 := by omega
  have hw4 : (i : Int) ≤ (l.length : Int) := by omega
  have hw5 : (i : Int) ≤ (l.length : Int) + 1 := by omega
  go_region_law (refine step_copy_runI rfl _ _ 22 22 rfl (.slice (some ⟨g, (i + 1) * 5, none⟩) (l.length - i) (c - (i + 1))) (.slice (some ⟨g, i * 5, none⟩) (l.length + 1 - i) (c - i)) (by simp [Act.eval, Act.put]) (by simp [Act.eval, Act.put]) (hcp1 3 (c - (i + 1)) (c - i)) ?_)
  clear hw1 hw2 htn hw3
  go_wp2_with (at_builtin; refine wpList_copy_runI _ rfl _ _ 22 22 rfl _ _ rfl rfl (hcp2 _ (fun _ => rfl) (fun _ => rfl) _ _) ?_)
  go_ret
  exact FIN.out _ (setAll_blk _ _ BK.out) (below_setCells hBg _ _ BW.out)
set_option maxRecDepth 100000 in
set_option maxHeartbeats 8000000 in
theorem insert_grow (g c i : Nat) (cur : Array Value) (l : List Ch) (x : Ch) (xb : Nat) (B : Nat) (w : World) (hi : i < l.length) (hl : l.length ≤ 1000000) (hlc : l.length ≤ c) (hroom : c < l.length + 1) (hg : Blk w g 24 cur) (ht : cur.toList.take (l.length * 5) = chs l) (hB : B ≤ w.heap.size)
    (hx : Blk w xb 24 (chC x).toArray) :
    Calls Try.prog 22 #[.slice (some ⟨g, 0, none⟩) l.length c, .int .i64 i, .slice (some ⟨xb, 0, none⟩) 1 1] w fun e w' => InsR B w l i x e w' := by
  obtain ⟨i0, hi0, hz0, hzs, hzb⟩ := info_parts ch_info
  have hinf : (Try.prog.info? 24).map (·.size) = some 5 := by rw [hi0]; simp [hzs]
  have hcsA : ∀ j v, (chs l)[j]? = some v → w.cell? ⟨g, j, none⟩ = some v := fun j v hj => by
    rw [hg.cell]
    rw [← ht, List.getElem?_take] at hj
    split at hj
    · simpa using hj
    · cases hj
  have hdl : (chs (l.drop i)).length = (l.length - i) * 5 := by rw [chs_len, List.length_drop]
  have hgw := hg.lt
  have hxw := hx.lt
  have hkk : (l.length : Int) + 1 - (i : Int) = ((l.length + 1 - i : Nat) : Int) := by omega
  have hik : i + (l.length + 1 - i) = l.length + 1 := by omega
  have hold : (Builtin.firstCells i0.size i (.slice (some ⟨g, 0, none⟩) i c)).run Try.prog w.drew = .ok (chs (l.take i)).toArray w.drew := by
    rw [hzs]
    exact run_firstCells_some w.drew 5 i ⟨g, 0, none⟩ i c (chs (l.take i)) (by rw [chs_len, List.length_take]; omega) (fun j v hj => by
      rw [add_lit]
      refine hcsA j v ?_
      rw [← chs_take, List.getElem?_take] at hj
      split at hj
      · exact hj
      · cases hj)
  have hrz : ∀ ty, (Builtin.append_ #[22, 3] ty #[.slice (some ⟨g, 0, none⟩) i c, .int .i64 ((l.length : Int) + 1 - (i : Int))]).run Try.prog w =
      .ok (.slice (some ⟨w.heap.size, 0, none⟩) (l.length + 1) (grownCap w (l.length + 1) c 24)) (w.drew.alloc (.cells ((chs (l.take i)).toArray ++ Builtin.zeroCells chZ.cells (l.length + 1 - i) ++ Builtin.zeroCells chZ.cells (grownCap w (l.length + 1) c 24 - (l.length + 1))) 24)) := fun ty => by
    have h := Lib.run_append_grow_zeros w 22 3 ty 24 i0 _ .i64 .i64 Try.underlying22 Try.underlying3 hi0 hz0 (some ⟨g, 0, none⟩) i c (chs (l.take i)) hold (l.length + 1 - i) (by omega) (by omega) (by omega) (by omega) (by rw [hzb]; omega) (by rw [hzb, hik]; exact growslice_fits hroom (by omega))
    rw [hik] at h
    rw [hkk]
    exact h
  obtain ⟨G, hG⟩ : ∃ G, G = grownCap w (l.length + 1) c 24 := ⟨_, rfl⟩
  have hGn : l.length + 1 ≤ G := by rw [hG]; exact grownCap_ge w _ _ _
  have hGm : G ≤ maxLen := by rw [hG]; exact grownCap_le_maxLen w (l.length + 1) c 24 (by unfold maxLen; omega)
  obtain ⟨ROW, hROW⟩ : ∃ ROW : Array Value, ROW = (chs (l.take i)).toArray ++ Builtin.zeroCells chZ.cells (l.length + 1 - i) ++ Builtin.zeroCells chZ.cells (G - (l.length + 1)) := ⟨_, rfl⟩
  rw [← hG] at hrz
  rw [← hROW] at hrz
  have hzc : chZ.cells.size = 5 := rfl
  have hRl : ROW.size = G * 5 := by
    rw [hROW]
    simp only [Array.size_append, size_zeroCells, hzc, List.size_toArray, chs_len, List.length_take]
    omega
  have hRt : ROW.toList.take (i * 5) = chs (l.take i) := by
    have : i * 5 = (chs (l.take i)).length := by rw [chs_len, List.length_take]; omega
    rw [hROW, this]
    simp only [Array.toList_append, List.append_assoc]
    exact List.take_left
  obtain ⟨W1, hW1⟩ : ∃ W1, W1 = w.drew.alloc (.cells ROW 24) := ⟨_, rfl⟩
  rw [← hW1] at hrz
  have bk1 : Blk W1 w.heap.size 24 ROW := by rw [hW1]; exact Blk.new w.drew _ _
  have bx1 : Blk W1 xb 24 (chC x).toArray := by rw [hW1]; exact hx.drew.alloc _
  have bg1 : Blk W1 g 24 cur := by rw [hW1]; exact hg.drew.alloc _
  have hcpA : ∀ (W : World), (∀ y, W.cell? y = W1.cell? y) → (∀ y, W.frozen? y = W1.frozen? y) → ∀ ty dc, (Builtin.copy_ #[22, 22] ty #[.slice (some ⟨w.heap.size, i * 5, none⟩) (l.length + 1 - i) dc, .slice (some ⟨xb, 0, none⟩) 1 1]).run Try.prog W = .ok (goInt 1) (W.setCells w.heap.size (i * 5) (chC x)) := fun W hWc hWf ty dc =>
    run_copy_cells5 W _ _ ty 24 w.heap.size (i * 5) (l.length + 1 - i) dc ⟨xb, 0, none⟩ 1 1 1 (chC x) Try.underlying22 hinf (by simp only [Nat.min_def]; split <;> omega) rfl
      (fun j v hj => by rw [add_lit, hWc, bx1.cell]; simpa using hj)
      (fun j hj => by
        rw [chC_len] at hj
        rw [hWc, bk1.cell, Array.getElem?_eq_getElem (by omega)]; rfl)
      (fun j hj => by rw [hWf]; exact bk1.frozen _) (by simp [chC, Value.oneCell'])
  have bk2 : Blk (W1.setCells w.heap.size (i * 5) (chC x)) w.heap.size 24 (setAll ROW (i * 5) (chC x)) := setAll_blk _ _ bk1
  have bg2 : Blk (W1.setCells w.heap.size (i * 5) (chC x)) g 24 cur := setCells_far (by omega) _ _ bg1
  have hcpB : ∀ (W : World), (∀ y, W.cell? y = (W1.setCells w.heap.size (i * 5) (chC x)).cell? y) → (∀ y, W.frozen? y = (W1.setCells w.heap.size (i * 5) (chC x)).frozen? y) → ∀ ty dc sc, (Builtin.copy_ #[22, 22] ty #[.slice (some ⟨w.heap.size, (i + 1) * 5, none⟩) (l.length - i) dc, .slice (some ⟨g, i * 5, none⟩) (l.length - i) sc]).run Try.prog W = .ok (goInt ((l.length - i : Nat) : Int)) (W.setCells w.heap.size ((i + 1) * 5) (chs (l.drop i))) := fun W hWc hWf ty dc sc =>
    run_copy_cells5 W _ _ ty 24 w.heap.size ((i + 1) * 5) (l.length - i) dc ⟨g, i * 5, none⟩ (l.length - i) sc (l.length - i) (chs (l.drop i)) Try.underlying22 hinf (by simp only [Nat.min_def]; split <;> omega) hdl
      (fun j v hj => by
        rw [Addr.add_lit, hWc, bg2.cell, ← hg.cell]
        refine hcsA (i * 5 + j) v ?_
        rw [← chs_drop, List.getElem?_drop] at hj
        exact hj)
      (fun j hj => by rw [hWc, bk2.cell, Array.getElem?_eq_getElem (by rw [setAll_size]; omega)]; rfl)
      (fun j hj => by rw [hWf]; exact bk2.frozen _) (chs_one' _)
  have FIN := hide (fun (w' : World) (hb : Blk w' w.heap.size 24 (setAll (setAll ROW (i * 5) (chC x)) ((i + 1) * 5) (chs (l.drop i)))) (hbel : Below B w w') => show InsR B w l i x (.returned (.slice (some ⟨w.heap.size, 0, none⟩) (l.length + 1) G)) w' from
    ⟨_, rfl, ⟨by rw [chs_len, List.length_append, List.length_cons, List.length_take, List.length_drop]; omega, .inr ⟨w.heap.size, G, _, rfl, hB, hb, hGn, hGm, by rw [setAll_size, setAll_size]; exact hRl, ins_grow ROW l i G x hi hGn hRl hRt⟩⟩, hbel⟩)
  have bw2 : Below B w (W1.setCells w.heap.size (i * 5) (chC x)) := by rw [hW1]; exact below_setCells hB _ _ ((Below.refl B w).drew.alloc hB _)
  have BW := hide (fun (_ : Unit) => And.intro bw2 bk2)
  have HR := hide hrz
  have hBw := hide hB
  have HA := hide hcpA
  have HC := hide hcpB
  have hG63 : G ≤ 9223372036854775807 := by unfold maxLen at hGm; omega
  have hGi : ¬ (G = i) := by omega
  have hGim : ¬ (G = i + 1) := by omega
  have hci : ¬ (c = i) := by omega
  have hw1 : IntKind.i64.wrap ((i : Int) + 1) = (i : Int) + 1 := by rw [IntKind.wrap_i64]; omega
  have hw2 : (0 : Int) ≤ (i : Int) + 1 := by omega
  have htn : ((i : Int) + 1).toNat = i + 1 := by omega
  have hw3 : (i : Int) + 1 ≤ (l.length : Int) + 1 := by omega
  have hw4 : (i : Int) ≤ (l.length : Int) := by omega
  have hw5 : (i : Int) ≤ (l.length : Int) + 1 := by omega
  clear hkk hik hold hROW hG hRl hRt hzc bk1 bx1 bg1 bk2 bw2 bg2 hg hx ht hdl hcsA hrz hcpA hcpB hB
  go_enter Try.func22, Try.ntmps22
  clear hW1
  go_wp2_with (at_builtin; refine Lib.wpList_append_run _ rfl _ _ _ _ rfl _ _ rfl rfl _ _ (HR.out _) ?_)
  rw [HA.out W1 (fun _ => rfl) (fun _ => rfl) 3 (G - i)]
  simp only [Result.andThen]
  rw [Oper.upon_value]
  clear HR HA
  generalize W1.setCells w.heap.size (i * 5) (chC x) = W2 at *
  go_wp2_with fail
  go_region_law (refine step_copy_runI rfl _ _ 22 22 rfl (.slice (some ⟨w.heap.size, (i + 1) * 5, none⟩) (l.length - i) (G - (i + 1))) (.slice (some ⟨g, i * 5, none⟩) (l.length - i) (c - i)) (by simp [Act.eval, Act.put]) (by simp [Act.eval, Act.put]) (HC.out W2.drew (fun _ => rfl) (fun _ => rfl) 3 (G - (i + 1)) (c - i)) ?_)
  go_wp2_with fail
  go_ret
  exact FIN.out _ (setAll_blk _ _ (BW.out ()).2.drew) (below_setCells hBw.out _ _ (BW.out ()).1.drew)
/-- The contract of slices.Insert at a row of the call's own, one value. -/
theorem Insert_a (v : Value) (l : List Ch) (i : Nat) (x : Ch) (xb : Nat) (B : Nat) (w : World) (hi : i ≤ l.length) (hl : l.length ≤ 1000000) (hown : w.ownsRow B 24 5 v l.length (chs l)) (hB : B ≤ w.heap.size) (hx : Blk w xb 24 (chC x).toArray) :
    Calls Try.prog 22 #[v, .int .i64 i, .slice (some ⟨xb, 0, none⟩) 1 1] w fun e w' => InsR B w l i x e w' := by
  rcases Nat.eq_or_lt_of_le hi with h | h
  · subst h
    obtain ⟨a, c, rfl⟩ := own_form hown
    exact insert_end a c l x xb B w hl hown hB hx hx.lt
  · rcases hown.2 with ⟨_, h0⟩ | ⟨g, cap, cur, rfl, hge, hh, hnc, hcm, hcs, htk⟩
    · omega
    · by_cases hr : l.length + 1 ≤ cap
      · exact insert_room g cap i cur l x xb B w h hl hr hcm hh hcs htk hge hx (fun e => by
          subst e
          unfold Blk at hx
          rw [hh] at hx
          injection hx with hx
          injection hx with hx
          rw [hx] at hcs
          have : (chC x).toArray.size = 5 := rfl
          omega)
      · exact insert_grow g cap i cur l x xb B w h hl hnc (by omega) hh htk hB hx
end Go.Proofs.Ytnmaclpjddafnaa
