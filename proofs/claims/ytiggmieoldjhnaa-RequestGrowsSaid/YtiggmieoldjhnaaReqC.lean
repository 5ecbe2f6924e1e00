/- Which requests may be asked for: the program's May. -/
import Derived.Test.YtiggmieoldjhnaaRows
import Derived.Test.YtiggmieoldjhnaaReqA
import Derived.Test.YtiggmieoldjhnaaReqB
import Derived.LoopN
namespace Go.Proofs.Ytiggmieoldjhnaa
open Go Go.RowKit Go.Proofs.Ytiggmieoldjhnaa.Grp
set_option linter.unusedVariables false
set_option linter.unusedSimpArgs false
namespace Req
/-- The number of a request that is there, and not taken. -/
def here (rs : List Rq) (x : Int) : Prop := 0 ≤ x ∧ x < rs.length ∧ (rs.getD x.toNat default).gone = false
instance (rs : List Rq) (x : Int) : Decidable (here rs x) := by unfold here; infer_instance
def okF (rs : List Rq) (l : List Int) : Prop := (∀ x ∈ l, here rs x) ∧ l.Nodup
instance (rs : List Rq) (l : List Int) : Decidable (okF rs l) := by unfold okF; infer_instance
def okT (rs : List Rq) (l : List Int) : Prop := 1 ≤ l.length ∧ l.length ≤ 8 ∧ okF rs l
instance (rs : List Rq) (l : List Int) : Decidable (okT rs l) := by unfold okT; infer_instance
def mayE (rs : List Rq) (l : List Int) : Int := if okT rs l then 0 else 120
theorem okF_take {rs : List Rq} {l : List Int} (h : okF rs l) (k : Nat) : okF rs (l.take k) := ⟨fun x hx => h.1 x (List.mem_of_mem_take hx), h.2.sublist (List.take_sublist _ _)⟩
theorem okF_snoc {rs : List Rq} {l : List Int} {x : Int} (h : okF rs l) (hx : here rs x) (hn : ¬ x ∈ l) : okF rs (l ++ [x]) := by
  refine ⟨fun y hy => ?_, ?_⟩
  · rcases List.mem_append.1 hy with hy | hy
    · exact h.1 y hy
    · rw [List.mem_singleton.1 hy]; exact hx
  · rw [List.nodup_append]
    refine ⟨h.2, List.nodup_cons.2 ⟨by simp, List.nodup_nil⟩, fun a ha b hb e => ?_⟩
    rw [List.mem_singleton.1 hb] at e
    exact hn (e ▸ ha)
theorem mem_take {l : List Int} {k : Nat} {z : Int} (h : z ∈ l.take k) (hk : k ≤ l.length) : ∃ m, m < k ∧ l.getD m 0 = z := by
  obtain ⟨i, hi, e⟩ := List.getElem_of_mem h
  rw [List.length_take] at hi
  refine ⟨i, by omega, ?_⟩
  rw [List.getElem_take] at e
  rw [List.getD_eq_getElem?_getD, List.getElem?_eq_getElem (by omega)]
  exact e
set_option maxRecDepth 100000 in
set_option maxHeartbeats 4000000 in
theorem May_c (T B : Nat) (rs : List Rq) (A : Option Addr) (cap : Nat) (l : List Int) (w : World) (h : PR w T B rs) (hr : NRow w A l) (hl : l.length ≤ 1000) (hcap : l.length ≤ cap) :
    Calls Try.prog 16 #[.pointer (some ⟨T, 0, none⟩), .slice A l.length cap] w fun e w' => e = .returned (.int .i64 (mayE rs l)) ∧ w = w' := by
  obtain ⟨h0, hrl, O, oc, hb, ho⟩ := id h
  have c0 : w.cell? ⟨T, 0, none⟩ = some (.bool true) := hb.cell 0
  have c1 : w.cell? ⟨T, 1, none⟩ = some (.slice O rs.length oc) := hb.cell 1
  have MC := hide (made_c T w c0)
  have TY := hide (fun (i : Nat) (hi : i < rs.length) => there_yes T B rs i w h hi)
  have TN := hide (fun (i : Int) (hi : ¬ (0 ≤ i ∧ i < rs.length)) => there_no T B rs i w h hi)
  have HO := hide ho
  have HR := hide hr
  clear hb ho h hr
  by_cases hlen : l.length < 1
  · have E : mayE rs l = 120 := if_neg fun h => by have := h.1; omega
    rw [E]
    have hI : (l.length : Int) < 1 := by omega
    clear E
    go_enter Try.func16, Try.ntmps16
    go_wp2_with fail
    refine MC.out.mono ?_
    rintro e w' ⟨rfl, rfl⟩
    go_wp2_with fail
    go_ret
    exact ⟨rfl, rfl⟩
  have hI : ¬ (l.length : Int) < 1 := by omega
  by_cases hlen8 : 8 < l.length
  · have E : mayE rs l = 120 := if_neg fun h => by have := h.2.1; omega
    rw [E]
    have hI8 : (8 : Int) < (l.length : Int) := by omega
    clear E
    go_enter Try.func16, Try.ntmps16
    go_wp2_with fail
    refine MC.out.mono ?_
    rintro e w' ⟨rfl, rfl⟩
    go_wp2_with fail
    go_ret
    exact ⟨rfl, rfl⟩
  have hI8 : ¬ (8 : Int) < (l.length : Int) := by omega
  have NO := hide (fun h : ¬ okF rs l => show mayE rs l = 120 from if_neg fun h2 => h h2.2.2)
  have YES := hide (fun h : okF rs l => show mayE rs l = 0 from if_pos ⟨by omega, by omega, h⟩)
  generalize mayE rs l = res at *
  go_enter Try.func16, Try.ntmps16
  go_wp2_with fail
  refine MC.out.mono ?_
  rintro e w' ⟨rfl, rfl⟩
  go_wp2_with fail
  go_loop [22] (fun vi => ∃ i : Nat, i ≤ l.length ∧ vi = .int .i64 i ∧ Hid (okF rs (l.take i))) (fun vi => l.length - (RowKit.intOf vi).toNat)
  case atStart => exact ⟨0, Nat.zero_le _, rfl, hide ⟨fun x hx => by simp at hx, by simp⟩⟩
  case round =>
    obtain ⟨i, hi, rfl, HOK⟩ := hrel
    by_cases hlt : i < l.length
    rotate_left
    · have hltI : ¬ (i : Int) < (l.length : Int) := by omega
      have R : res = 0 := YES.out (by have h9 := HOK.out; rw [List.take_of_length_le (by omega)] at h9; exact h9)
      subst R
      go_wp2_with fail
      go_ret
      exact ⟨rfl, rfl⟩
    have hltI : (i : Int) < (l.length : Int) := by omega
    obtain ⟨ad, rfl, had, hcd⟩ := HR.out (by omega)
    have hcx := hcd i hlt
    have TK := hide (Grp.take_snoc l i hlt)
    have HCD := hide hcd
    have hmx := Grp.getD_mem hlt
    obtain ⟨x, hx⟩ : ∃ x, l.getD i 0 = x := ⟨_, rfl⟩
    rw [hx] at hcx TK hmx
    have HMX := hide hmx
    have HX := hide hx
    clear hcd hx hmx
    by_cases hth : 0 ≤ x ∧ x < rs.length
    rotate_left
    · have TX := hide (TN.out x hth)
      have R : res = 120 := NO.out fun h => hth ⟨(h.1 x HMX.out).1, (h.1 x HMX.out).2.1⟩
      subst R
      clear hth
      go_wp2_with fail
      refine TX.out.mono ?_
      rintro e w' ⟨rfl, rfl⟩
      go_wp2_with fail
      go_ret
      exact ⟨rfl, rfl⟩
    obtain ⟨y, rfl⟩ : ∃ y : Nat, x = (y : Int) := ⟨x.toNat, by omega⟩
    have hy : y < rs.length := by omega
    have hyI : (y : Int) < (rs.length : Int) := by omega
    have TX := hide (TY.out y hy)
    obtain ⟨o, rfl, _, _, ⟨cso, hOb⟩, _, _, hOc⟩ := own_cell HO.out (by omega)
    have hgc := hOc (y * 6 + 2) _ (rqCs_at rs y hy 2 (by omega))
    have hgd : rs.getD y default = rs[y] := by rw [List.getD_eq_getElem?_getD, List.getElem?_eq_getElem hy]; rfl
    clear hth hOc hOb
    cases hgn : rs[y].gone with
    | true =>
      rw [hgn] at hgc
      have R : res = 120 := NO.out fun h => by
        have := (h.1 _ HMX.out).2.2
        rw [Int.toNat_natCast, hgd, hgn] at this
        cases this
      subst R
      clear hgn hgd
      go_wp2_with fail
      refine TX.out.mono ?_
      rintro e w' ⟨rfl, rfl⟩
      go_wp2_with fail
      go_ret
      exact ⟨rfl, rfl⟩
    | false =>
    rw [hgn] at hgc
    have HHE := hide (show here rs (y : Int) from ⟨by omega, hyI, by rw [Int.toNat_natCast, hgd, hgn]⟩)
    have hic : (i : Int) ≤ (cap : Int) := by omega
    have hicN : i ≤ cap := by omega
    clear hgn hgd
    go_wp2_with fail
    refine TX.out.mono ?_
    rintro e w' ⟨rfl, rfl⟩
    go_wp2_with fail
    go_loop [45] (fun vj => ∃ j : Nat, j ≤ i ∧ vj = .int .i64 j ∧ Hid (∀ m, m < j → l.getD m 0 ≠ (y : Int))) (fun vj => i - (RowKit.intOf vj).toNat)
    case atStart => exact ⟨0, Nat.zero_le _, rfl, hide (fun m hm => absurd hm (Nat.not_lt_zero m))⟩
    case round =>
      obtain ⟨j, hj, rfl, HNE⟩ := hrel
      by_cases hjl : j < i
      · have hjI : (j : Int) < (i : Int) := by omega
        have hcj := HCD.out j (by omega)
        obtain ⟨z, hz⟩ : ∃ z, l.getD j 0 = z := ⟨_, rfl⟩
        rw [hz] at hcj
        have HZ := hide hz
        clear hz
        by_cases hzy : z = (y : Int)
        · have R : res = 120 := NO.out fun h => by
            have h2 := h.2
            have e1 : l[j]? = some (y : Int) := by
              rw [List.getElem?_eq_getElem (by omega)]
              have h3 := HZ.out
              rw [List.getD_eq_getElem?_getD, List.getElem?_eq_getElem (by omega)] at h3
              exact congrArg some (h3.trans hzy)
            have e2 : l[i]? = some (y : Int) := by
              rw [List.getElem?_eq_getElem hlt]
              have h3 := HX.out
              rw [List.getD_eq_getElem?_getD, List.getElem?_eq_getElem hlt] at h3
              exact congrArg some h3
            have := (List.getElem?_inj (by omega : j < l.length) h2).1 (e1.trans e2.symm)
            omega
          subst R
          have hzz : (z == (y : Int)) = true := by simp [hzy]
          clear hzy
          go_wp2_with fail
          go_ret
          exact ⟨rfl, rfl⟩
        · have hzz : (z == (y : Int)) = false := by rw [beq_eq_false_iff_ne]; exact hzy
          have HNE2 := hide (fun m (hm : m < j + 1) => show l.getD m 0 ≠ (y : Int) from by
            rcases Nat.lt_or_ge m j with h9 | h9
            · exact HNE.out m h9
            · obtain rfl : m = j := by omega
              rw [HZ.out]; exact hzy)
          clear hzy
          go_wp2_with fail
          go_round
          case rel => exact ⟨j + 1, by omega, by go_num, HNE2⟩
          case measure => simp [RowKit.intOf] <;> omega
      · have hjI : ¬ (j : Int) < (i : Int) := by omega
        have HOK2 := hide (show okF rs (l.take (i + 1)) by
          rw [TK.out]
          refine okF_snoc HOK.out HHE.out fun hm => ?_
          obtain ⟨m, hm1, hm2⟩ := mem_take hm (by omega)
          exact HNE.out m (by omega) hm2)
        go_wp2_with fail
        go_round
        case rel => exact ⟨i + 1, by omega, by go_num, HOK2⟩
        case measure => simp [RowKit.intOf] <;> omega
end Req
end Go.Proofs.Ytiggmieoldjhnaa
