/- The program's Copy. -/
import Derived.Test.YtobccgjonpcpgaaRows
import Derived.Test.YtobccgjonpcpgaaPathH
namespace Go.Proofs.Ytobccgjonpcpgaa
open Go Go.RowKit
set_option linter.unusedVariables false
set_option linter.unusedSimpArgs false
namespace Pth
theorem lvCs_one (ls : List Lv) : ∀ v ∈ lvCs ls, v.oneCell' = true := by
  intro v hv
  obtain ⟨h, _, hv⟩ := List.mem_flatMap.1 hv
  simp only [lvC, List.mem_cons, List.not_mem_nil, or_false] at hv
  rcases hv with rfl | rfl | rfl | rfl | rfl <;> rfl
set_option maxRecDepth 100000 in
set_option maxHeartbeats 2000000 in
theorem CloneL_a (B n : Nat) (v : Value) (ls : List Lv) (w : World) (ho : w.ownsRow B 58 5 v n (lvCs ls)) (hn : n ≤ 2000) :
    Calls Try.prog 25 #[v] w fun e w' => ∃ v', e = .returned v' ∧ w'.ownsRow w.heap.size 58 5 v' n (lvCs ls) ∧ Below w.heap.size w w' := by
  obtain ⟨i0, hi0, hz0, hz1, hz2⟩ := info_parts level_info
  have HI := hide (And.intro hi0 (And.intro hz0 (And.intro hz1 hz2)))
  clear hi0 hz0 hz1 hz2
  rcases ho.2 with ⟨rfl, rfl⟩ | ⟨g, cap, cur, rfl, hge, hh, hnc, hmx, hcs, htk⟩
  · have he : lvCs ls = [] := List.eq_nil_of_length_eq_zero (by simpa using ho.1)
    rw [he]
    clear ho he
    have q := fun (w : World) => Lib.run_eql_slice_nil (P := Try.prog) w 50 58 none 0 0 0 0 Try.underlying50
    simp only [Option.isNone_none] at q
    go_enter Try.func25, Try.ntmps25
    go_wp2_with fail
    go_ret
    exact ⟨_, rfl, ⟨rfl, .inl ⟨rfl, rfl⟩⟩, Below.refl _ _⟩
  · have RD := hide (Reads.of_own ho)
    have HO := hide (lvCs_one ls)
    have own0 : Hid ((w.alloc (.cells #[] 58)).ownsRow w.heap.size 58 5 (.slice (some ⟨w.heap.size, 0, none⟩) 0 0) 0 []) := hide ⟨rfl, .inr ⟨w.heap.size, 0, #[], rfl, Nat.le_refl _, heap_alloc_new w _, Nat.le_refl _, by unfold maxLen; omega, rfl, rfl⟩⟩
    clear ho hge hh hnc hmx hcs htk
    have q := fun (w : World) => Lib.run_eql_slice_nil (P := Try.prog) w 50 58 (some ⟨g, 0, none⟩) n cap 0 0 Try.underlying50
    simp only [Option.isNone_some] at q
    go_enter Try.func25, Try.ntmps25
    go_wp2_with (at_builtin; refine wpList_append_any _ rfl _ _ 50 rfl w.heap.size 58 i0 _ 5 56 Try.underlying50 HI.out.1 HI.out.2.1 HI.out.2.2.1 HI.out.2.2.2 rfl (by decide) (.slice (some ⟨w.heap.size, 0, none⟩) 0 0) 0 [] rfl own0.out w.heap.size (some ⟨g, 0, none⟩) n cap (lvCs ls) rfl (RD.out.alloc (Nat.le_refl _) _) HO.out ?k1 ?k2 ?k3 ?_)
    case k1 => unfold maxLen; omega
    case k2 => omega
    case k3 => simp
    intro v' w1 hown hgrow _
    have Own := hide hown
    have HG := hide hgrow
    clear hown hgrow
    go_wp2_with fail
    go_ret
    refine ⟨_, rfl, by simpa using Own.out, ?_⟩
    exact ((Below.refl _ _).alloc (Nat.le_refl _) _).grown HG.out (by simp) (fun k hk => by cases hk; exact Nat.le_refl _)
set_option maxRecDepth 100000 in
set_option maxHeartbeats 4000000 in
theorem Copy_a (T B : Nat) (ls : List Lv) (w : World) (ht : StA w T B ls) :
    Calls Try.prog 11 #[.pointer (some ⟨T, 0, none⟩)] w fun e w' => ∃ T', e = .returned (.pointer (some ⟨T', 0, none⟩)) ∧ w.heap.size ≤ T' ∧ StA w' T' w.heap.size ls ∧ Below w.heap.size w w' := by
  obtain ⟨v, hb, ho⟩ := ht.tab
  have CL := hide (CloneL_a B ls.length v ls w ho ht.le)
  obtain ⟨a, c, rfl⟩ := own_form ho
  have q0 : w.cell? ⟨T, 0, none⟩ = some (.bool true) := hb.cell 0
  have q1 : w.cell? ⟨T, 1, none⟩ = some (.slice a ls.length c) := hb.cell 1
  have M := hide (made_a T true w q0)
  have HT := hide ht
  clear ht hb ho
  go_enter Try.func11, Try.ntmps11
  go_wp2_with fail
  refine M.out.mono ?_
  rintro e w1 ⟨rfl, rfl⟩
  go_wp2_with fail
  refine CL.out.mono ?_
  rintro e w2 ⟨v2, rfl, ho2, hb2⟩
  obtain ⟨a2, c2, rfl⟩ := own_form ho2
  have hbn := (Below.refl w2.heap.size w2).alloc (Nat.le_refl _) (.cells #[.bool true, .slice a2 ls.length c2] 52)
  have hbk := Blk.new w2 52 #[.bool true, .slice a2 ls.length c2]
  have HB3 := hb2.trans (hbn.mono hb2.size)
  have FIN := hide (And.intro hb2.size (And.intro (show StA (w2.alloc (.cells #[.bool true, .slice a2 ls.length c2] 52)) w2.heap.size w.heap.size ls from ⟨HT.out.le, ⟨_, hbk, own_belowR ho2 hbn⟩, fun i hi => (HT.out.rows i hi).keep fun g hg => HB3.block g ((HT.out.rows i hi).lt hg)⟩) HB3))
  clear hbn hbk HB3 ho2 hb2
  go_wp2_with fail
  go_ret
  exact ⟨_, rfl, FIN.out.1, FIN.out.2.1, FIN.out.2.2⟩
end Pth
end Go.Proofs.Ytobccgjonpcpgaa
