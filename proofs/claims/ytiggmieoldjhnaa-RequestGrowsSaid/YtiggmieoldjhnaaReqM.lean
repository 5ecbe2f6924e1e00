/- Whether acts are few; whether numbers are all among some. -/
import Derived.Test.YtiggmieoldjhnaaRows
import Derived.Test.YtiggmieoldjhnaaReqL
import Derived.Test.YtiggmieoldjhnaaQuietBelow
namespace Go.Proofs.Ytiggmieoldjhnaa
open Go Go.RowKit Go.Proofs.Ytiggmieoldjhnaa.Grp Go.Deep
set_option linter.unusedVariables false
set_option linter.unusedSimpArgs false
namespace Req
set_option maxRecDepth 100000 in
set_option maxHeartbeats 2000000 in
theorem Great_a (A : Option Addr) (n cap : Nat) (F : Nat → Ac) (w : World) (ha : Acts w A n F) (hn : n ≤ maxLen) :
    Calls Try.prog 6 #[.slice A n cap] w fun e w' => (e = .returned (.bool true) ∨ (e = .returned (.bool false) ∧ n ≤ 600 ∧ ∀ i, i < n → (F i).l.length ≤ 20)) ∧ w = w' := by
  have HA := hide ha
  clear ha
  by_cases hg : 600 < n
  · have hI : (600 : Int) < (n : Int) := by omega
    go_enter Try.func6, Try.ntmps6
    go_wp2_with fail
    go_ret
    exact ⟨.inl rfl, rfl⟩
  have hI : ¬ (600 : Int) < (n : Int) := by omega
  clear hn
  go_enter Try.func6, Try.ntmps6
  go_wp2_with fail
  go_loop [3] (fun vi => ∃ i : Nat, i ≤ n ∧ vi = .int .i64 i ∧ Hid (∀ m, m < i → (F m).l.length ≤ 20)) (fun vi => n - (RowKit.intOf vi).toNat)
  case atStart => exact ⟨0, Nat.zero_le _, rfl, hide (fun m hm => absurd hm (Nat.not_lt_zero m))⟩
  case round =>
    obtain ⟨i, hi, rfl, HF⟩ := hrel
    by_cases hlt : i < n
    rotate_left
    · have hltI : ¬ (i : Int) < (n : Int) := by omega
      have FIN := hide (fun m (hm : m < n) => HF.out m (by omega))
      go_wp2_with fail
      go_ret
      exact ⟨.inr ⟨rfl, by omega, FIN.out⟩, rfl⟩
    have hltI : (i : Int) < (n : Int) := by omega
    obtain ⟨a, rfl, _, _, c2, _⟩ := HA.out i hlt
    by_cases h20 : 20 < (F i).l.length
    · have hI20 : (20 : Int) < ((F i).l.length : Int) := by omega
      generalize (F i).l.length = fl at *
      go_wp2_with fail
      go_ret
      exact ⟨.inl rfl, rfl⟩
    · have hI20 : ¬ (20 : Int) < ((F i).l.length : Int) := by omega
      have HF2 := hide (fun m (hm : m < i + 1) => show (F m).l.length ≤ 20 from by
        rcases Nat.lt_or_ge m i with h9 | h9
        · exact HF.out m h9
        · obtain rfl : m = i := by omega
          omega)
      clear h20
      generalize (F i).l.length = fl at *
      go_wp2_with fail
      go_round
      case rel => exact ⟨i + 1, by omega, by go_num, HF2⟩
      case measure => simp [RowKit.intOf] <;> omega
def allP (left l : List Int) : Prop := (∀ x ∈ l, x ∈ left) ∧ l.Nodup
instance (left l : List Int) : Decidable (allP left l) := by unfold allP; infer_instance
def allT (left l : List Int) : Prop := 1 ≤ l.length ∧ l.length ≤ 8 ∧ allP left l
instance (left l : List Int) : Decidable (allT left l) := by unfold allT; infer_instance
theorem allP_snoc {left l : List Int} {x : Int} (h : allP left l) (hx : x ∈ left) (hn : ¬ x ∈ l) : allP left (l ++ [x]) := by
  refine ⟨fun y hy => ?_, ?_⟩
  · rcases List.mem_append.1 hy with hy | hy
    · exact h.1 y hy
    · rw [List.mem_singleton.1 hy]; exact hx
  · rw [List.nodup_append]
    refine ⟨h.2, List.nodup_cons.2 ⟨by simp, List.nodup_nil⟩, fun a ha b hb e => ?_⟩
    rw [List.mem_singleton.1 hb] at e
    exact hn (e ▸ ha)
set_option maxRecDepth 100000 in
set_option maxHeartbeats 4000000 in
theorem all_c (AL A : Option Addr) (ca cap : Nat) (left l : List Int) (w : World) (hL : NRow w AL left) (hr : NRow w A l) (hll : left.length ≤ 1000) (hl : l.length ≤ 1000) (hcap : l.length ≤ cap) :
    Calls Try.prog 11 #[.slice AL left.length ca, .slice A l.length cap] w fun e w' => e = .returned (.bool (decide (allT left l))) ∧ Below w.heap.size w w' := by
  have HL := hide hL
  have HR := hide hr
  have NO := hide (fun h : ¬ allP left l => decide_eq_false (p := allT left l) fun h2 => h h2.2.2)
  have YES := hide (fun (h : allP left l) (h1 : 1 ≤ l.length) (h2 : l.length ≤ 8) => decide_eq_true (p := allT left l) ⟨h1, h2, h⟩)
  have NO1 := hide (fun h : ¬ (1 ≤ l.length ∧ l.length ≤ 8) => decide_eq_false (p := allT left l) fun h2 => h ⟨h2.1, h2.2.1⟩)
  clear hL hr
  generalize decide (allT left l) = res at *
  go_enter Try.func11, Try.ntmps11
  go_wp2_with fail
  go_loopw [5] (fun vi wr => ∃ i : Nat, i ≤ l.length ∧ vi = .int .i64 i ∧ Hid (allP left (l.take i)) ∧ Hid (Below w.heap.size w wr)) (fun vi _ => l.length - (RowKit.intOf vi).toNat)
  case atStart => exact ⟨0, Nat.zero_le _, rfl, hide ⟨fun x hx => by simp at hx, by simp⟩, hide (Below.refl _ _)⟩
  case round =>
    obtain ⟨i, hi, rfl, HP, HB⟩ := hrel
    rename World => wr
    by_cases hlt : i < l.length
    rotate_left
    · have hltI : ¬ (i : Int) < (l.length : Int) := by omega
      have hP : allP left l := by have h9 := HP.out; rwa [List.take_of_length_le (by omega)] at h9
      have HPP := hide hP
      clear hP
      by_cases h1 : 1 ≤ l.length
      · have h1I : (1 : Int) ≤ (l.length : Int) := by omega
        by_cases h8 : l.length ≤ 8
        · have h8I : (l.length : Int) ≤ 8 := by omega
          have R : res = true := YES.out HPP.out h1 h8
          subst R
          go_wp2_with fail
          go_ret
          exact ⟨by simp [h8I], HB.out⟩
        · have h8I : ¬ (l.length : Int) ≤ 8 := by omega
          have R : res = false := NO1.out fun h => h8 h.2
          subst R
          go_wp2_with fail
          go_ret
          exact ⟨by simp [h8I], HB.out⟩
      · have h1I : ¬ (1 : Int) ≤ (l.length : Int) := by omega
        have R : res = false := NO1.out fun h => h1 h.1
        subst R
        go_wp2_with fail
        go_ret
        exact ⟨by simp [h1I], HB.out⟩
    have hltI : (i : Int) < (l.length : Int) := by omega
    obtain ⟨ad, rfl, had, hcd⟩ := HR.out.below HB.out (by omega)
    have hcx := hcd i hlt
    have TK := hide (Grp.take_snoc l i hlt)
    have hmx := Grp.getD_mem hlt
    have hND := hide (fun (h : l.getD i 0 ∈ l.take i) (hn : l.Nodup) => show False from by
      obtain ⟨m, hm1, hm2⟩ := Req.mem_take h (by omega)
      have hml : m < l.length := by omega
      rw [List.getD_eq_getElem?_getD, List.getElem?_eq_getElem hml, List.getD_eq_getElem?_getD, List.getElem?_eq_getElem hlt] at hm2
      have e9 : l[m]? = l[i]? := by rw [List.getElem?_eq_getElem hml, List.getElem?_eq_getElem hlt]; exact congrArg some hm2
      have := (List.getElem?_inj hml hn).1 e9
      omega)
    obtain ⟨x, hx⟩ : ∃ x, l.getD i 0 = x := ⟨_, rfl⟩
    rw [hx] at hcx TK hmx hND
    have HMX := hide hmx
    have hlen : (l.take i).length = i := by rw [List.length_take]; omega
    have hrt : ∀ W, Below wr.heap.size wr W → NRow W (some ad) (l.take i) := fun W hW h0 => by
      obtain ⟨b, e, hb, hc⟩ := (HR.out.below (HB.out.trans (hW.mono HB.out.size))) (by omega)
      exact ⟨b, e, hb, fun j hj => by rw [hlen] at hj; rw [Grp.getD_take l i j hj]; exact hc j (by omega)⟩
    have hne : Nonempty (BelowOf wr) := ⟨⟨wr, Below.refl _ _⟩⟩
    have hcq : ∀ p : BelowOf wr, p.world.cell? (ad.add i) = some (.int .i64 x) := fun p => (p.below.cell (by rw [block_of_add]; exact had)).trans hcx
    have H1 := hide (fun p : BelowOf wr => (has_c AL ca left x p.world (HL.out.below (HB.out.trans (p.below.mono HB.out.size))) (by omega)).mono (R' := fun e w' => e = .returned (.bool (decide (x ∈ left))) ∧ Below p.world.heap.size p.world w') (by rintro e w' ⟨h1, rfl⟩; exact ⟨h1, Below.refl _ _⟩))
    have H2 := hide (fun p : BelowOf wr => (has_c (some ad) cap (l.take i) x p.world (hrt _ p.below) (by omega)).mono (R' := fun e w' => e = .returned (.bool (decide (x ∈ l.take i))) ∧ Below p.world.heap.size p.world w') (by rintro e w' ⟨h1, rfl⟩; exact ⟨h1, Below.refl _ _⟩))
    rw [hlen] at H2
    have hicN : i ≤ cap := by omega
    have hic : (i : Int) ≤ (cap : Int) := by omega
    clear hcd hx hmx hrt hlen hcx
    by_cases hm : x ∈ left
    · rw [decide_eq_true hm] at H1
      by_cases hk : x ∈ l.take i
      · rw [decide_eq_true hk] at H2
        have R : res = false := NO.out fun h => hND.out hk h.2
        subst R
        clear hm hk
        go_wp2_with fail
        refine wp_region_quiet_below (by kernel_rfl) (by kernel_rfl) ?_
        repeat (go_big_quiet_step (first
          | (go_at_call_of 17 AL; refine calls_below (H1.out _))
          | (go_at_call_of 17 ad; refine calls_below (H2.out _))))
        refine wpQuiet_nil ?_
        rintro _ ⟨⟨Wq, hq⟩, rfl⟩
        go_wp2_with fail
        go_ret
        exact ⟨rfl, HB.out.trans (hq.mono HB.out.size)⟩
      · rw [decide_eq_false hk] at H2
        have HP2 := hide (show allP left (l.take (i + 1)) by rw [TK.out]; exact allP_snoc HP.out hm hk)
        clear hm hk
        go_wp2_with fail
        refine wp_region_quiet_below (by kernel_rfl) (by kernel_rfl) ?_
        repeat (go_big_quiet_step (first
          | (go_at_call_of 17 AL; refine calls_below (H1.out _))
          | (go_at_call_of 17 ad; refine calls_below (H2.out _))))
        refine wpQuiet_nil ?_
        rintro _ ⟨⟨Wq, hq⟩, rfl⟩
        go_wp2_with fail
        go_roundw
        case rel => exact ⟨i + 1, by omega, by first | trivial | go_num, HP2, hide (HB.out.trans (hq.mono HB.out.size))⟩
        case measure => simp [RowKit.intOf] <;> omega
    · rw [decide_eq_false hm] at H1
      have R : res = false := NO.out fun h => hm (h.1 x HMX.out)
      subst R
      clear hm H2
      go_wp2_with fail
      refine wp_region_quiet_below (by kernel_rfl) (by kernel_rfl) ?_
      repeat (go_big_quiet_step (first
        | (go_at_call_of 17 AL; refine calls_below (H1.out _))))
      refine wpQuiet_nil ?_
      rintro _ ⟨⟨Wq, hq⟩, rfl⟩
      go_wp2_with fail
      go_ret
      exact ⟨rfl, HB.out.trans (hq.mono HB.out.size)⟩
end Req
end Go.Proofs.Ytiggmieoldjhnaa
