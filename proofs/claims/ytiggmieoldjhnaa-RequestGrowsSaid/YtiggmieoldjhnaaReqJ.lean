/- The chapter's example, that the statements begin with: awake. -/
import Derived.Test.YtiggmieoldjhnaaRows
import Derived.Test.YtiggmieoldjhnaaReqI
namespace Go.Proofs.Ytiggmieoldjhnaa
open Go Go.RowKit Go.Proofs.Ytiggmieoldjhnaa.Grp
set_option linter.unusedVariables false
set_option linter.unusedSimpArgs false
namespace Req
theorem own_nrow {w : World} {B c : Nat} {A : Option Addr} {l : List Int} (h : w.ownsRow B 3 1 (.slice A l.length c) l.length (ints l)) : NRow w A l := fun h0 => by
  obtain ⟨g, rfl, _, _, ⟨cs, hb⟩, _, _, hc⟩ := own_cell h h0
  refine ⟨_, rfl, hb.lt, fun i hi => ?_⟩
  rw [add_lit]
  exact hc i _ (Grp.ints_at hi)
theorem blk_nrow {w : World} {g : Nat} {l : List Int} (h : Blk w g 3 (ints l).toArray) : NRow w (some ⟨g, 0, none⟩) l := fun h0 => by
  refine ⟨_, rfl, h.lt, fun i hi => ?_⟩
  rw [add_lit, h.cell]
  show (ints l).toArray[i]? = _
  rw [List.getElem?_toArray]
  exact Grp.ints_at hi
/-- The table's row lies where it lay: not in a block that is new. -/
theorem PR.apart {w : World} {T B : Nat} {rs : List Rq} (h : PR w T B rs) (ob : Obj) : ∀ a O oc, some (⟨w.heap.size, 0, none⟩ : Addr) = some a → (w.alloc ob).cell? ⟨T, 1, none⟩ = some (.slice (some O) rs.length oc) → a.block ≠ O.block := by
  rintro a O oc e hc
  cases e
  have hT := h.lt
  obtain ⟨_, _, O', oc', hb, ho⟩ := h
  rw [(hb.alloc ob).cell 1] at hc
  have e : O' = some O := by
    have h9 : Value.slice O' rs.length oc' = Value.slice (some O) rs.length oc := by simpa using hc
    injection h9
  subst e
  have := (own_block ho (g := O.block) (by
    rcases ho.2 with ⟨h1, _⟩ | ⟨g, cap, cur, h1, _⟩
    · cases h1
    · injection h1 with h1 h2 h3
      injection h1 with h1
      subst h1
      rfl)).2.1
  show w.heap.size ≠ O.block
  omega
/-- What lies below the table's row is not the row. -/
theorem PR.apart2 {w : World} {T B : Nat} {rs : List Rq} (h : PR w T B rs) {A : Option Addr} (hA : ∀ a, A = some a → a.block < B) : ∀ a O oc, A = some a → w.cell? ⟨T, 1, none⟩ = some (.slice (some O) rs.length oc) → a.block ≠ O.block := by
  rintro a O oc e hc
  obtain ⟨_, _, O', oc', hb, ho⟩ := h
  rw [hb.cell 1] at hc
  have e2 : O' = some O := by
    have h9 : Value.slice O' rs.length oc' = Value.slice (some O) rs.length oc := by simpa using hc
    injection h9
  subst e2
  have := (own_block ho (g := O.block) (by
    rcases ho.2 with ⟨h1, _⟩ | ⟨g, cap, cur, h1, _⟩
    · cases h1
    · injection h1 with h1 h2 h3
      injection h1 with h1
      subst h1
      rfl)).1
  have := hA a e
  omega
set_option maxRecDepth 100000 in
theorem eqlRq (a b c : Bool) (x y z : Int) (w : World) : (binOp .eql 47 (.agg #[.bool a, .bool b, .bool c, .int .i64 x, .int .i64 y, .int .i64 z]) (.agg #[.bool a, .bool b, .bool c, .int .i64 x, .int .i64 y, .int .i64 z])).run Try.prog w = .ok (.bool true) w := by
  have u_int := Try.underlying3; have a_int := Try.isAgg3; have z_int := Try.sizeOf3
  have u_i64 := Try.underlying2; have a_i64 := Try.isAgg2; have z_i64 := Try.sizeOf2
  have u_bool := Try.underlying4; have a_bool := Try.isAgg4; have z_bool := Try.sizeOf4
  have hS : Try.prog.underlying 47 = some (.struct (Try.prog.fieldsOf 47)) := by kernel_rfl
  have hp : Try.prog.stoodInHeld 47 = false := by kernel_rfl
  rw [run_eql_struct, show (10000 : Nat) = 9999 + 1 from rfl, run_equalIn_agg w 9999 47 _ _ hS hp]
  simp only [Program.fieldsOf, Try.underlying47]
  clear hS hp
  go_simp
set_option maxRecDepth 100000 in
set_option maxHeartbeats 16000000 in
theorem awake_c (w : World) : Calls Try.prog 5 #[] w fun e w' => e = .returned (.bool true) ∧ Below w.heap.size w w' := by
  have E1 := hide (fun w => eqlRq true true false 7 3 5 w)
  have E2 := hide (fun w => eqlRq false true false 0 0 0 w)
  have NC := hide (New_c w)
  go_enter Try.func5, Try.ntmps5
  go_wp2_with fail
  refine NC.out.mono ?_
  rintro e w1 ⟨rfl, hp1, hb1⟩
  obtain ⟨T, hT⟩ : ∃ T, w.heap.size = T := ⟨_, rfl⟩
  rw [hT] at hp1 ⊢
  have A1 := hide (Add_yes T T [] true false w1 hp1 (by decide))
  have B1 := hide (show Below T w w1 by rw [← hT]; exact hb1)
  clear hp1 hb1
  go_wp2_with fail
  refine A1.out.mono ?_
  rintro e w2 ⟨rfl, hp2, hb2, _⟩
  have A2 := hide (Add_yes T T [⟨true, false, false, 0, 0, 0⟩] false true w2 hp2 (by decide))
  have B2 := hide (B1.out.trans hb2)
  clear hp2 hb2 A1 B1
  go_wp2_with fail
  refine A2.out.mono ?_
  rintro e w3 ⟨rfl, hp3, hb3, _⟩
  have B3 := hide (B2.out.trans hb3)
  have P3 := hide hp3
  clear hp3 hb3 A2 B2
  have hba := (Below.refl w3.heap.size w3).alloc (Nat.le_refl _) (.cells #[.int .i64 0, .int .i64 1] 3)
  have kb := Blk.new w3 3 #[.int .i64 0, .int .i64 1]
  have hTw := P3.out.lt
  have W3 := hide (Which_c T T [⟨true, false, false, 0, 0, 0⟩, ⟨false, true, false, 0, 0, 0⟩] (some ⟨w3.heap.size, 0, none⟩) 2 [0, 1] (w3.alloc (.cells #[.int .i64 0, .int .i64 1] 3)) (P3.out.below hba) (blk_nrow kb) (by decide))
  rw [show whL [⟨true, false, false, 0, 0, 0⟩, ⟨false, true, false, 0, 0, 0⟩] (askL ([⟨true, false, false, 0, 0, 0⟩, ⟨false, true, false, 0, 0, 0⟩] : List Rq).length [0, 1] ([0, 1] : List Int).length) = [1] from by decide] at W3
  have HBA := hide hba
  clear hba kb
  go_wp2_with fail
  refine W3.out.mono ?_
  rintro e w4 ⟨A', c', rfl, ho4, hb4⟩
  have hP4 := (P3.out.below HBA.out).below hb4
  have hB4 := B3.out.trans ((HBA.out.mono (show T ≤ w3.heap.size by omega)).trans (hb4.mono (by simp; omega)))
  have HO4 := hide ho4
  clear HBA W3 P3 B3 ho4 hb4
  -- Take of the first alone
  have hb4a := (Below.refl w4.heap.size w4).alloc (Nat.le_refl _) (.cells #[.int .i64 0] 3)
  have kb4 := Blk.new w4 3 #[.int .i64 0]
  have hT4 := hP4.lt
  have TK1 := hide (Take_c T T [⟨true, false, false, 0, 0, 0⟩, ⟨false, true, false, 0, 0, 0⟩] (some ⟨w4.heap.size, 0, none⟩) 1 [0] (w4.alloc (.cells #[.int .i64 0] 3)) (hP4.below hb4a) (blk_nrow kb4) (fun _ => hP4.apart _) (by decide) (by decide))
  have HP4 := hide (hP4.below hb4a)
  have HB4 := hide (hB4.trans (hb4a.mono (show T ≤ w4.heap.size by omega)))
  have HO4a := hide (own_belowR HO4.out hb4a)
  have hT4a : T < (w4.alloc (.cells #[.int .i64 0] 3)).heap.size := by simp; omega
  clear hb4a kb4 hP4 hB4 HO4
  go_wp2_with fail
  refine TK1.out.mono ?_
  rintro e w5 (⟨htk, _⟩ | ⟨_, rfl, hb5⟩)
  · exact absurd htk (by decide)
  have hP5 := HP4.out.below hb5
  have hB5 := hide (HB4.out.trans (hb5.mono (Nat.le_of_lt hT4a)))
  have HO5 := hide (own_belowR HO4a.out hb5)
  clear HP4 HB4 HO4a hb5 TK1 hT4a hT4 hTw
  have CC := Complete_yes T T [⟨true, false, false, 0, 0, 0⟩, ⟨false, true, false, 0, 0, 0⟩] 0 7 3 5 w5 hP5 (by decide) rfl rfl
  rw [show ((0 : Nat) : Int) = 0 from rfl] at CC
  have HCC := hide CC
  clear CC hP5
  go_wp2_with fail
  refine HCC.out.mono ?_
  rintro e w6 ⟨rfl, hp6, hb6, hk6⟩
  have hP6 : PR w6 T T [⟨true, true, false, 7, 3, 5⟩, ⟨false, true, false, 0, 0, 0⟩] := hp6
  have hB6 := hB5.out.trans hb6
  have HO6 := hide (KeepsBut.own hk6 HO5.out (by decide))
  clear hp6 hb6 hk6 hB5 HO5 HCC
  -- Take of both
  have hb6a := (Below.refl w6.heap.size w6).alloc (Nat.le_refl _) (.cells #[.int .i64 0, .int .i64 1] 3)
  have kb6 := Blk.new w6 3 #[.int .i64 0, .int .i64 1]
  have hT6 := hP6.lt
  have TK2 := hide (Take_c T T [⟨true, true, false, 7, 3, 5⟩, ⟨false, true, false, 0, 0, 0⟩] (some ⟨w6.heap.size, 0, none⟩) 2 [0, 1] (w6.alloc (.cells #[.int .i64 0, .int .i64 1] 3)) (hP6.below hb6a) (blk_nrow kb6) (fun _ => hP6.apart _) (by decide) (by decide))
  have HB6 := hide (hB6.trans (hb6a.mono (show T ≤ w6.heap.size by omega)))
  have HO6a := hide (own_belowR HO6.out hb6a)
  clear hb6a kb6 hP6 hB6 HO6 hT6
  go_wp2_with fail
  refine TK2.out.mono ?_
  rintro e w7 (⟨_, A2, c2, rfl, hr7, hp7, hb7, hk7⟩ | ⟨hn, _⟩)
  rotate_left
  · exact absurd (show takeOk _ _ by decide) hn
  have hP7 : PR w7 T T [⟨true, true, true, 7, 3, 5⟩, ⟨false, true, true, 0, 0, 0⟩] := hp7
  have HR7 := hide (show w7.ownsRow _ 47 6 (.slice A2 2 c2) 2 (rqCs [⟨true, true, false, 7, 3, 5⟩, ⟨false, true, false, 0, 0, 0⟩]) from hr7)
  have hO7 := KeepsBut.own hk7 HO6a.out (by decide)
  have hB7 := HB6.out.trans hb7
  have hT7 := hP7.lt
  have hb7a := (Below.refl w7.heap.size w7).alloc (Nat.le_refl _) (.cells #[.int .i64 1] 3)
  have kb7 := Blk.new w7 3 #[.int .i64 1]
  have IC := hide (Grp.Ints_b A' (some ⟨w7.heap.size, 0, none⟩) c' 1 [1] [1] (w7.alloc (.cells #[.int .i64 1] 3)) ((own_nrow hO7).below hb7a) (blk_nrow kb7) (by decide) (by decide))
  have HB7 := hide (hB7.trans (hb7a.mono (show T ≤ w7.heap.size by omega)))
  have HP7 := hide (hP7.below hb7a)
  have HR7a := hide (own_belowR HR7.out hb7a)
  have hT7a : T < (w7.alloc (.cells #[.int .i64 1] 3)).heap.size := by simp; omega
  clear hr7 hp7 hb7 hk7 hP7 hO7 hB7 hb7a kb7 TK2 HB6 HO6a HR7
  go_wp2_with fail
  refine IC.out.mono ?_
  rintro e w8 ⟨rfl, hb8⟩
  have hP8 := HP7.out.below hb8
  have HB8 := hide (HB7.out.trans (hb8.mono (Nat.le_of_lt hT7a)))
  obtain ⟨g, rfl, _, _, _, _, _, hc8⟩ := own_cell (own_belowR HR7a.out hb8) (by omega)
  have d0 := hc8 0 _ rfl
  have d1 := hc8 1 _ rfl
  have d2 := hc8 2 _ rfl
  have d3 := hc8 3 _ rfl
  have d4 := hc8 4 _ rfl
  have d5 := hc8 5 _ rfl
  have d6 := hc8 6 _ rfl
  have d7 := hc8 7 _ rfl
  have d8 := hc8 8 _ rfl
  have d9 := hc8 9 _ rfl
  have d10 := hc8 10 _ rfl
  have d11 := hc8 11 _ rfl
  have LC := hide (Left_c T T [⟨true, true, true, 7, 3, 5⟩, ⟨false, true, true, 0, 0, 0⟩] w8 hP8)
  rw [show leftN [⟨true, true, true, 7, 3, 5⟩, ⟨false, true, true, 0, 0, 0⟩] ([⟨true, true, true, 7, 3, 5⟩, ⟨false, true, true, 0, 0, 0⟩] : List Rq).length = [] from rfl] at LC
  have HP8 := hide hP8
  have hT8 := hP8.lt
  have e1 := E1.out
  have e2 := E2.out
  clear hb8 HB7 HP7 HR7a hc8 hP8 IC hT7a hT7
  go_wp2_with fail
  refine LC.out.mono ?_
  rintro e w9 ⟨A9, c9, rfl, _, hb9⟩
  have MC := hide (Many_c T T _ w9 (HP8.out.below hb9))
  have HB9 := hide (HB8.out.trans (hb9.mono (Nat.le_of_lt hT8)))
  clear HB8 HP8 hb9 d0 d1 d2 d3 d4 d5 d6 d7 d8 d9 d10 d11 LC
  go_wp2_with fail
  refine MC.out.mono ?_
  rintro e w' ⟨rfl, rfl⟩
  go_wp2_with fail
  go_ret
  exact ⟨by rfl, by rw [hT]; exact HB9.out⟩
end Req
end Go.Proofs.Ytiggmieoldjhnaa
