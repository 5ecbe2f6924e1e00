/- A queue alone, as it goes on; the chapter's example. -/
import Derived.Test.YtomladbdebfikaaRows
import Derived.Test.YtomladbdebfikaaQuXd
import Derived.Test.YtomladbdebfikaaQuM
import Derived.Test.YtomladbdebfikaaQuI
import Derived.Test.YtomladbdebfikaaQuJ
import Derived.Test.YtomladbdebfikaaQuU
import Derived.BigRegion
namespace Go.Proofs.Ytomladbdebfikaa
open Go Go.RowKit Go.Lib
set_option linter.unusedVariables false
set_option linter.unusedSimpArgs false
namespace Qu
/-- A queue that lies from block B on. -/
structure Q1 (w : World) (B q : Nat) (L : QL) (l : List Msg) : Prop where
  qs : QSt w q L l
  lo : ∀ b ∈ L.foot q, B ≤ b
variable {w w' : World} {B q : Nat} {L : QL} {l l' : List Msg}
theorem Q1.size (h : Q1 w B q L l) : B ≤ w.heap.size := by
  have := h.qs.lt q foot_q
  have := h.lo q foot_q
  omega
theorem Q1.below (h : Q1 w B q L l) (hb : Below w.heap.size w w') : Q1 w' B q L l := ⟨h.qs.below hb, h.lo⟩
theorem Q1.go (h : Q1 w B q L l) (hg : Goes w q L l' w') : ∃ L', Q1 w' B q L' l' ∧ Below B w w' := by
  obtain ⟨L', h1, h2, h3⟩ := hg
  refine ⟨L', ⟨h1, fun b hb => ?_⟩, h2.below h.lo h.size⟩
  rcases h3 b hb with h4 | h4
  · exact h.lo b h4
  · have := h.size; omega
/-- What isn't a queue's own is as it was. -/
theorem Goes.kept (h : Q1 w B q L l) (hg : Goes w q L l' w') {X : Nat} {t : TypeId} {cs : Array Value} (k : Blk w X t cs) (hX : ¬ X ∈ L.foot q) : Blk w' X t cs := by
  obtain ⟨L', h1, h2, h3⟩ := hg
  exact (h2.block X k.lt hX).trans k
/-- A row that isn't a queue's own is as it was. -/
theorem Goes.own (hg : Goes w q L l' w') {C m c n size : Nat} {A : Option Addr} {e : TypeId} {xs : List Value} (h : w.ownsRow C e size (.slice A m c) n xs) (hC : ∀ b ∈ L.foot q, b < C) : w'.ownsRow C e size (.slice A m c) n xs := by
  obtain ⟨L', h1, h2, h3⟩ := hg
  refine ⟨h.1, h.2.imp id ?_⟩
  rintro ⟨g, cap, cur, hv, hge, hh, r⟩
  exact ⟨g, cap, cur, hv, hge, (h2.block g (Array.getElem?_eq_some_iff.1 hh).1 (fun hm => by have := hC g hm; omega)).trans hh, r⟩
set_option maxRecDepth 100000 in
theorem message_c (a b : Int) (w : World) : Calls Try.prog 46 #[.int .i64 a, .int .i64 b] w fun e w' => e = .returned (.agg #[.string ⟨#[]⟩, .int .i64 0, .int .i64 1, .int .i64 a, .int .i64 b, .int .i64 0, .int .i64 1, .bool false]) ∧ Below w.heap.size w w' := by
  have HB := hide ((Below.refl w.heap.size w).alloc (Nat.le_refl _) (.cells #[.string ⟨#[]⟩, .int .i64 0, .int .i64 1, .int .i64 a, .int .i64 b, .int .i64 0, .int .i64 1, .bool false] 31))
  have kb := Blk.new w 31 #[.string ⟨#[]⟩, .int .i64 0, .int .i64 1, .int .i64 a, .int .i64 b, .int .i64 0, .int .i64 1, .bool false]
  have u0 := kb.cell 0
  have u1 := kb.cell 1
  have u2 := kb.cell 2
  have u3 := kb.cell 3
  have u4 := kb.cell 4
  have u5 := kb.cell 5
  have u6 := kb.cell 6
  have u7 := kb.cell 7
  clear kb
  go_enter Try.func46, Try.ntmps46
  go_wp2
  exact bodyPost_ret (v := .agg #[.string ⟨#[]⟩, .int .i64 0, .int .i64 1, .int .i64 a, .int .i64 b, .int .i64 0, .int .i64 1, .bool false]) (by simp [results, Try.results46, go_sem, u0, u1, u2, u3, u4, u5, u6, u7]) rfl ⟨rfl, HB.out⟩
def M0 : Msg := ⟨⟨#[]⟩, 0, 1, 0, 5, 0, 1, false⟩
def M1 : Msg := ⟨⟨#[]⟩, 0, 1, 1, 6, 0, 1, false⟩
def M2 : Msg := ⟨⟨#[]⟩, 0, 1, 1, 7, 0, 1, false⟩
def C0 : Chan := ⟨⟨#[]⟩, 0, 1⟩
set_option maxRecDepth 100000 in
set_option maxHeartbeats 16000000 in
theorem awake_c (W : World) : Calls Try.prog 29 #[] W fun e w' => e = .returned (.bool true) ∧ Below W.heap.size W w' := by
  have NC := hide (New_c W)
  go_enter Try.func29, Try.ntmps29
  go_wp2_with fail
  refine NC.out.mono ?_
  rintro e w0 ⟨q, L0, rfl, hq, hf, hb⟩
  have HQ0 := hide (Q1.mk hq hf)
  have HW0 := hide hb
  clear hq hf hb NC
  have CC := hide (message_c 0 5 w0)
  go_wp2_with fail
  refine CC.out.mono ?_
  rintro e w1 ⟨rfl, hb⟩
  have HQ1 := hide (HQ0.out.below hb)
  have HW1 := hide (HW0.out.trans (hb.mono HW0.out.size))
  
  clear hb CC
  have CC : Hid (Calls Try.prog 10 #[.pointer (some ⟨q, 0, none⟩), .agg #[.string ⟨#[]⟩, .int .i64 0, .int .i64 1, .int .i64 0, .int .i64 5, .int .i64 0, .int .i64 1, .bool false]] w1 fun e w' => e = .returned (.int .i64 0) ∧ Goes w1 q L0 [M0] w') := hide (by
    have h := Send_c HQ1.out.qs M0 (by decide)
    rw [show sendE [] M0 = 0 from by kernel_rfl, show sendL [] M0 = [M0] from by kernel_rfl] at h
    exact h)
  go_wp2_with fail
  refine CC.out.mono ?_
  rintro e w2 ⟨rfl, hg⟩
  obtain ⟨L2, hq, hb⟩ := HQ1.out.go hg
  have HQ2 := hide hq
  have HW2 := hide (HW1.out.trans hb)
  clear hg hq hb CC
  have CC := hide (message_c 1 6 w2)
  go_wp2_with fail
  refine CC.out.mono ?_
  rintro e w3 ⟨rfl, hb⟩
  have HQ3 := hide (HQ2.out.below hb)
  have HW3 := hide (HW2.out.trans (hb.mono HW2.out.size))
  
  clear hb CC
  have CC : Hid (Calls Try.prog 10 #[.pointer (some ⟨q, 0, none⟩), .agg #[.string ⟨#[]⟩, .int .i64 0, .int .i64 1, .int .i64 1, .int .i64 6, .int .i64 0, .int .i64 1, .bool false]] w3 fun e w' => e = .returned (.int .i64 0) ∧ Goes w3 q L2 [M0, M1] w') := hide (by
    have h := Send_c HQ3.out.qs M1 (by decide)
    rw [show sendE [M0] M1 = 0 from by kernel_rfl, show sendL [M0] M1 = [M0, M1] from by kernel_rfl] at h
    exact h)
  go_wp2_with fail
  refine CC.out.mono ?_
  rintro e w4 ⟨rfl, hg⟩
  obtain ⟨L4, hq, hb⟩ := HQ3.out.go hg
  have HQ4 := hide hq
  have HW4 := hide (HW3.out.trans hb)
  clear hg hq hb CC
  have CC := hide (message_c 1 7 w4)
  go_wp2_with fail
  refine CC.out.mono ?_
  rintro e w5 ⟨rfl, hb⟩
  have HQ5 := hide (HQ4.out.below hb)
  have HW5 := hide (HW4.out.trans (hb.mono HW4.out.size))
  
  clear hb CC
  have CC : Hid (Calls Try.prog 10 #[.pointer (some ⟨q, 0, none⟩), .agg #[.string ⟨#[]⟩, .int .i64 0, .int .i64 1, .int .i64 1, .int .i64 7, .int .i64 0, .int .i64 1, .bool false]] w5 fun e w' => e = .returned (.int .i64 2) ∧ Goes w5 q L4 [M0, M1] w') := hide (by
    have h := Send_c HQ5.out.qs M2 (by decide)
    rw [show sendE [M0, M1] M2 = 2 from by kernel_rfl, show sendL [M0, M1] M2 = [M0, M1] from by kernel_rfl] at h
    exact h)
  go_wp2_with fail
  refine CC.out.mono ?_
  rintro e w6 ⟨rfl, hg⟩
  obtain ⟨L6, hq, hb⟩ := HQ5.out.go hg
  have HQ6 := hide hq
  have HW6 := hide (HW5.out.trans hb)
  clear hg hq hb CC
  have CC : Hid (Calls Try.prog 22 #[.pointer (some ⟨q, 0, none⟩), .string ⟨#[]⟩, .int .i64 0, .int .i64 1, .int .i64 (-1)] w6 fun e w' => e = .returned (.tuple #[.agg #[.string ⟨#[]⟩, .int .i64 0, .int .i64 1, .int .i64 0, .int .i64 5, .int .i64 0, .int .i64 1, .bool false], .bool true]) ∧ Below w6.heap.size w6 w') := hide (by
    have h := First_c HQ6.out.qs C0 (-1) (by decide)
    rw [show firstL [M0, M1] C0 (-1) = some M0 from by kernel_rfl] at h
    exact h)
  go_wp2_with fail
  refine CC.out.mono ?_
  rintro e w7 ⟨rfl, hb⟩
  have ba := (Below.refl w7.heap.size w7).alloc (Nat.le_refl _) (.cells #[.string ⟨#[]⟩, .int .i64 0, .int .i64 1, .int .i64 0, .int .i64 5, .int .i64 0, .int .i64 1, .bool false] 31)
  have kx := Blk.new w7 31 #[.string ⟨#[]⟩, .int .i64 0, .int .i64 1, .int .i64 0, .int .i64 5, .int .i64 0, .int .i64 1, .bool false]
  obtain ⟨w8, hw1⟩ : ∃ zz, w7.alloc (.cells #[.string ⟨#[]⟩, .int .i64 0, .int .i64 1, .int .i64 0, .int .i64 5, .int .i64 0, .int .i64 1, .bool false] 31) = zz := ⟨_, rfl⟩
  obtain ⟨X2, hX⟩ : ∃ zz, w7.heap.size = zz := ⟨_, rfl⟩
  rw [hw1] at ba kx
  have hbx := hb.trans (ba.mono hb.size)
  have HXX2 := hide (show ¬ X2 ∈ L6.foot q from fun hm => by have := (HQ6.out.below hb).qs.lt _ hm; omega)
  rw [hX] at kx
  have HQ8 := hide (HQ6.out.below hbx)
  have HW8 := hide (HW6.out.trans (hbx.mono HW6.out.size))
  
  have KX2 := hide kx
  have HE := hide (And.intro hw1 hX)
  clear hb ba kx hw1 hX hbx CC
  go_upto_region 5 with (fail)
  rw [HE.out.1, HE.out.2]
  clear HE
  have CC : Hid (Calls Try.prog 22 #[.pointer (some ⟨q, 0, none⟩), .string ⟨#[]⟩, .int .i64 0, .int .i64 1, .int .i64 6] w8 fun e w' => e = .returned (.tuple #[.agg #[.string ⟨#[]⟩, .int .i64 0, .int .i64 1, .int .i64 1, .int .i64 6, .int .i64 0, .int .i64 1, .bool false], .bool true]) ∧ Below w8.heap.size w8 w') := hide (by
    have h := First_c HQ8.out.qs C0 6 (by decide)
    rw [show firstL [M0, M1] C0 6 = some M1 from by kernel_rfl] at h
    exact h)
  go_wp2_with fail
  refine CC.out.mono ?_
  rintro e w9 ⟨rfl, hb⟩
  have ba := (Below.refl w9.heap.size w9).alloc (Nat.le_refl _) (.cells #[.string ⟨#[]⟩, .int .i64 0, .int .i64 1, .int .i64 1, .int .i64 6, .int .i64 0, .int .i64 1, .bool false] 31)
  have kx := Blk.new w9 31 #[.string ⟨#[]⟩, .int .i64 0, .int .i64 1, .int .i64 1, .int .i64 6, .int .i64 0, .int .i64 1, .bool false]
  obtain ⟨w10, hw1⟩ : ∃ zz, w9.alloc (.cells #[.string ⟨#[]⟩, .int .i64 0, .int .i64 1, .int .i64 1, .int .i64 6, .int .i64 0, .int .i64 1, .bool false] 31) = zz := ⟨_, rfl⟩
  obtain ⟨X4, hX⟩ : ∃ zz, w9.heap.size = zz := ⟨_, rfl⟩
  rw [hw1] at ba kx
  have hbx := hb.trans (ba.mono hb.size)
  have HXX4 := hide (show ¬ X4 ∈ L6.foot q from fun hm => by have := (HQ8.out.below hb).qs.lt _ hm; omega)
  rw [hX] at kx
  have HQ10 := hide (HQ8.out.below hbx)
  have HW10 := hide (HW8.out.trans (hbx.mono HW8.out.size))
  have KX2 := hide (KX2.out.below hbx KX2.out.lt)
  have KX4 := hide kx
  have HE := hide (And.intro hw1 hX)
  clear hb ba kx hw1 hX hbx CC
  go_upto_region 6 with (fail)
  rw [HE.out.1, HE.out.2]
  clear HE
  have CC := hide (message_c 1 0 w10)
  go_wp2_with fail
  refine CC.out.mono ?_
  rintro e w11 ⟨rfl, hb⟩
  have HQ11 := hide (HQ10.out.below hb)
  have HW11 := hide (HW10.out.trans (hb.mono HW10.out.size))
  have KX2 := hide (KX2.out.below hb KX2.out.lt)
  have KX4 := hide (KX4.out.below hb KX4.out.lt)
  clear hb CC
  have CC : Hid (Calls Try.prog 24 #[.pointer (some ⟨q, 0, none⟩), .agg #[.string ⟨#[]⟩, .int .i64 0, .int .i64 1, .int .i64 1, .int .i64 0, .int .i64 0, .int .i64 1, .bool false]] w11 fun e w' => ∃ A1 c1, e = .returned (.slice A1 1 c1) ∧ w'.ownsRow w11.heap.size 31 8 (.slice A1 1 c1) 1 (msgCs [M0]) ∧ Below w11.heap.size w11 w') := hide (by
    refine (Ahead_c HQ11.out.qs ⟨⟨#[]⟩, 0, 1, 1, 0, 0, 1, false⟩ (by decide)).mono ?_
    rintro e w' ⟨A1, c1, he, hown, hb⟩
    have ha : aheadL [M0, M1] (Msg.who ⟨⟨#[]⟩, 0, 1, 1, 0, 0, 1, false⟩) = [M0] := by kernel_rfl
    rw [ha] at he hown
    exact ⟨A1, c1, he, hown, hb⟩)
  have F6 := hide HQ11.out.qs.lt
  go_wp2_with fail
  refine CC.out.mono ?_
  rintro e w12 ⟨A6, c6, rfl, hr6, hb⟩
  have HQ12 := hide (HQ11.out.below hb)
  have HW12 := hide (HW11.out.trans (hb.mono HW11.out.size))
  have KX2 := hide (KX2.out.below hb KX2.out.lt)
  have KX4 := hide (KX4.out.below hb KX4.out.lt)
  have HR6 := hide hr6
  clear hb CC hr6
  have CC : Hid (Calls Try.prog 27 #[.pointer (some ⟨q, 0, none⟩), .string ⟨#[]⟩, .int .i64 1] w12 fun e w' => ∃ A1 c1, e = .returned (.slice A1 1 c1) ∧ w'.ownsRow w12.heap.size 3 1 (.slice A1 1 c1) 1 (ints [0]) ∧ Below w12.heap.size w12 w') := hide (by
    refine (Senders_c HQ12.out.qs ⟨⟨#[]⟩, 1⟩ (by decide)).mono ?_
    rintro e w' ⟨A1, c1, he, hown, hb⟩
    have ha : sendersL [M0, M1] ⟨⟨#[]⟩, 1⟩ = [0] := by kernel_rfl
    rw [ha] at he hown
    exact ⟨A1, c1, he, hown, hb⟩)
  have F7 := hide HQ12.out.qs.lt
  go_wp2_with fail
  refine CC.out.mono ?_
  rintro e w13 ⟨A7, c7, rfl, hr7, hb⟩
  have HQ13 := hide (HQ12.out.below hb)
  have HW13 := hide (HW12.out.trans (hb.mono HW12.out.size))
  have KX2 := hide (KX2.out.below hb KX2.out.lt)
  have KX4 := hide (KX4.out.below hb KX4.out.lt)
  have HR6 := hide (own_belowR HR6.out hb)
  have HR7 := hide hr7
  clear hb CC hr7
  have CC : Hid (Calls Try.prog 12 #[.pointer (some ⟨q, 0, none⟩), .int .i64 0, .int .i64 0] w13 fun e w' => e = .returned (.int .i64 0) ∧ Goes w13 q L6 [M0.took, M1] w') := hide (by
    have h := Take_c HQ13.out.qs ⟨0, 0⟩ (by decide)
    rw [show takeE [M0, M1] ⟨0, 0⟩ = 0 from by kernel_rfl, show takeL [M0, M1] ⟨0, 0⟩ = [M0.took, M1] from by kernel_rfl] at h
    exact h)
  go_wp2_with fail
  refine CC.out.mono ?_
  rintro e w14 ⟨rfl, hg⟩
  have HR6 := hide (Goes.own hg HR6.out F6.out)
  have HR7 := hide (Goes.own hg HR7.out F7.out)
  have KX2 := hide (Goes.kept HQ13.out hg KX2.out HXX2.out)
  have KX4 := hide (Goes.kept HQ13.out hg KX4.out HXX4.out)
  obtain ⟨L14, hq, hch, hlo⟩ := hg
  have hb := hch.below HQ13.out.lo HQ13.out.size
  have HW14 := hide (HW13.out.trans hb)
  have HQ14 : Hid (Q1 w14 W.heap.size q L14 [M0.took, M1]) := hide ⟨hq, fun b hb => by
    rcases hlo b hb with h4 | h4
    · exact HQ13.out.lo b h4
    · have := HQ13.out.size; omega⟩
  clear hb CC hq hch hlo
  have CC : Hid (Calls Try.prog 22 #[.pointer (some ⟨q, 0, none⟩), .string ⟨#[]⟩, .int .i64 0, .int .i64 1, .int .i64 (-1)] w14 fun e w' => e = .returned (.tuple #[.agg #[.string ⟨#[]⟩, .int .i64 0, .int .i64 1, .int .i64 1, .int .i64 6, .int .i64 0, .int .i64 1, .bool false], .bool true]) ∧ Below w14.heap.size w14 w') := hide (by
    have h := First_c HQ14.out.qs C0 (-1) (by decide)
    rw [show firstL [M0.took, M1] C0 (-1) = some M1 from by kernel_rfl] at h
    exact h)
  go_wp2_with fail
  refine CC.out.mono ?_
  rintro e w15 ⟨rfl, hb⟩
  have ba := (Below.refl w15.heap.size w15).alloc (Nat.le_refl _) (.cells #[.string ⟨#[]⟩, .int .i64 0, .int .i64 1, .int .i64 1, .int .i64 6, .int .i64 0, .int .i64 1, .bool false] 31)
  have kx := Blk.new w15 31 #[.string ⟨#[]⟩, .int .i64 0, .int .i64 1, .int .i64 1, .int .i64 6, .int .i64 0, .int .i64 1, .bool false]
  obtain ⟨w16, hw1⟩ : ∃ zz, w15.alloc (.cells #[.string ⟨#[]⟩, .int .i64 0, .int .i64 1, .int .i64 1, .int .i64 6, .int .i64 0, .int .i64 1, .bool false] 31) = zz := ⟨_, rfl⟩
  obtain ⟨X9, hX⟩ : ∃ zz, w15.heap.size = zz := ⟨_, rfl⟩
  rw [hw1] at ba kx
  have hbx := hb.trans (ba.mono hb.size)
  have HXX9 := hide (show ¬ X9 ∈ L14.foot q from fun hm => by have := (HQ14.out.below hb).qs.lt _ hm; omega)
  rw [hX] at kx
  have HQ16 := hide (HQ14.out.below hbx)
  have HW16 := hide (HW14.out.trans (hbx.mono HW14.out.size))
  have KX2 := hide (KX2.out.below hbx KX2.out.lt)
  have KX4 := hide (KX4.out.below hbx KX4.out.lt)
  have KX9 := hide kx
  have HE := hide (And.intro hw1 hX)
  have HR6 := hide (own_belowR HR6.out hbx)
  have HR7 := hide (own_belowR HR7.out hbx)
  clear hb ba kx hw1 hX hbx CC
  go_upto_region 10 with (fail)
  rw [HE.out.1, HE.out.2]
  clear HE
  have y2 : w16.cell? ⟨X2, 3, none⟩ = some (.int .i64 0) := KX2.out.cell 3
  have y4 : w16.cell? ⟨X4, 3, none⟩ = some (.int .i64 1) := KX4.out.cell 3
  have y9 : w16.cell? ⟨X9, 3, none⟩ = some (.int .i64 1) := KX9.out.cell 3
  obtain ⟨g6, hg6, hgl, hit⟩ := (MRow.of_own HR6.out rfl).it 0 M0 rfl
  subst hg6
  have y6 : w16.cell? ⟨g6, 3, none⟩ = some (.int .i64 0) := by have := hit 3 _ rfl; simpa [M0, msgC] using this
  have ba := (Below.refl w16.heap.size w16).alloc (Nat.le_refl _) (.cells #[.int .i64 0] 3)
  have kz := Blk.new w16 3 #[.int .i64 0]
  have z9 : (w16.alloc (.cells #[.int .i64 0] 3)).cell? ⟨X9, 3, none⟩ = some (.int .i64 1) := (KX9.out.below ba KX9.out.lt).cell 3
  have r8 : NRow (w16.alloc (.cells #[.int .i64 0] 3)) (some ⟨w16.heap.size, 0, none⟩) [0] := ⟨fun i x hx => by
    cases i with
    | zero => cases hx; exact ⟨_, rfl, kz.lt, kz.cell 0⟩
    | succ i => cases hx⟩
  obtain ⟨wz, hwz⟩ : ∃ zz, w16.alloc (.cells #[.int .i64 0] 3) = zz := ⟨_, rfl⟩
  obtain ⟨Z, hZ⟩ : ∃ zz, w16.heap.size = zz := ⟨_, rfl⟩
  have hwl := HW16.out.trans (ba.mono HW16.out.size)
  have r7 := NRow.of_own (own_belowR HR7.out ba) rfl
  have hqz := HQ16.out.below ba
  have hkz := KX9.out.below ba KX9.out.lt
  rw [hwz] at z9 r8 r7 hqz hkz hwl
  rw [hZ] at r8
  have HQZ := hide hqz
  have HWZ := hide hwl
  have HKZ := hide hkz
  have IC : Hid (Calls Try.prog 26 #[.slice A7 1 c7, .slice (some ⟨Z, 0, none⟩) 1 1] wz fun e w' => e = .returned (.bool true) ∧ Below wz.heap.size wz w') := hide (Ints_b A7 (some ⟨Z, 0, none⟩) c7 1 1 [0] r7 r8 rfl (by decide))
  have HE := hide (And.intro hwz hZ)
  clear hit hgl ba kz z9 r8 r7 hqz hkz hwl hwz hZ
  go_wp2_with fail
  rw [HE.out.1, HE.out.2]
  refine IC.out.mono ?_
  rintro e wi ⟨rfl, hbi⟩
  have y9 : wi.cell? ⟨X9, 3, none⟩ = some (.int .i64 1) := (HKZ.out.below hbi HKZ.out.lt).cell 3
  have LC := hide (Left_c (HQZ.out.below hbi).qs (by decide))
  have HWI := hide (HWZ.out.trans (hbi.mono HWZ.out.size))
  clear hbi IC HE
  go_wp2_with fail
  refine LC.out.mono ?_
  rintro e wl ⟨A9, c9, K, rfl, hK, hown, hbl⟩
  have HBL := hide (HWI.out.trans (hbl.mono HWI.out.size))
  have hlen : K.length = 1 := by
    rw [(isLeft_perm hK).length_eq]
    kernel_rfl
  rw [hlen]
  clear hK hown hbl hlen LC
  go_wp2_with fail
  go_ret
  exact ⟨rfl, HBL.out⟩
end Qu
end Go.Proofs.Ytomladbdebfikaa
