/- The first choice that is so; what stands at a point. -/
import Derived.Test.YtnmaclpjddafnaaRows
import Derived.Test.YtnmaclpjddafnaaSignC
namespace Go.Proofs.Ytnmaclpjddafnaa
open Go.RowKit
set_option linter.unusedVariables false
set_option linter.unusedSimpArgs false
def idxI (p : Ch → Bool) (l : List Ch) : Int := match l.findIdx? p with | some i => (i : Int) | none => -1
theorem idxI_hit {p : Ch → Bool} {l : List Ch} {i : Nat} (hi : i < l.length) (h : p l[i] = true) (hn : ∀ k (hk : k < i), p (l[k]'(by omega)) = false) : idxI p l = i := by
  unfold idxI
  have : l.findIdx? p = some i := by
    rw [List.findIdx?_eq_some_iff_getElem]
    exact ⟨hi, h, fun j hj => by simp [hn j hj]⟩
  rw [this]
theorem idxI_none {p : Ch → Bool} {l : List Ch} (hn : ∀ k (hk : k < l.length), p l[k] = false) : idxI p l = -1 := by
  unfold idxI
  have : l.findIdx? p = none := by
    rw [List.findIdx?_eq_none_iff]
    intro x hx
    obtain ⟨k, hk, rfl⟩ := List.getElem_of_mem hx
    exact hn k hk
  rw [this]
set_option maxRecDepth 100000 in
set_option maxHeartbeats 2000000 in
theorem index_ag (A : Option Addr) (cap : Nat) (l : List Ch) (b0 : Addr) (p : Ch → Bool) (w : World) (h : CRow w A l) (hl : l.length ≤ 1000)
    (hp : ∀ (x : Ch) (w' : World), x ∈ l → Below w.heap.size w w' → Calls Try.prog 24 #[x.val, .pointer (some b0)] w' fun e w'' => e = .returned (.bool (p x)) ∧ Below w'.heap.size w' w'') :
    Calls Try.prog 32 #[.slice A l.length cap, .func (.func 24) #[] #[.pointer (some b0)]] w fun e w' => e = .returned (.int .i64 (idxI p l)) ∧ Below w.heap.size w w' := by
  have H := hide h
  have HP := hide hp
  clear h hp
  go_enter Try.func32, Try.ntmps32
  go_wp2_with fail
  go_loopw [8] (fun vi wr => ∃ i : Nat, i ≤ l.length ∧ vi = .int .i64 i ∧ Hid (∀ k (hk : k < i) (hk2 : k < l.length), p l[k] = false) ∧ Hid (Below w.heap.size w wr)) (fun vi _ => l.length - (intOf vi).toNat)
  case atStart => exact ⟨0, Nat.zero_le _, rfl, hide (fun k hk => absurd hk (Nat.not_lt_zero k)), hide (Below.refl _ _)⟩
  case round =>
    obtain ⟨i, hi, rfl, HN, HB⟩ := hrel
    by_cases hlt : i < l.length
    · obtain ⟨a, rfl, ha, hok, h0, h1, h2, h3, h4⟩ := (H.out.below HB.out).at_ hlt
      have ltI : (i : Int) < (l.length : Int) := by omega
      have PC := hide (HP.out l[i] wr (List.getElem_mem hlt) HB.out)
      rcases hx : p l[i] with _ | _
      · have HN2 : Hid (∀ k (hk : k < i + 1) (hk2 : k < l.length), p l[k] = false) := hide fun k hk hk2 => by
          rcases Nat.lt_or_ge k i with h5 | h5
          · exact HN.out k h5 hk2
          · obtain rfl : k = i := by omega
            exact hx
        rw [hx] at PC
        clear hx hok
        generalize l[i] = tk at *
        obtain ⟨r, c, f, s, v⟩ := tk
        simp only at h0 h1 h2 h3 h4 PC
        unfold Ch.val at PC
        simp only at PC
        go_wp2_with fail
        refine PC.out.mono ?_
        rintro e w1 ⟨rfl, hb1⟩
        have HB1 := hide (HB.out.trans (hb1.mono HB.out.size))
        clear hb1
        go_wp2_with fail
        go_roundw
        case rel => exact ⟨i + 1, by omega, by first | trivial | go_num, HN2, HB1⟩
        case measure => simp [intOf]; omega
      · have E : Hid (idxI p l = i) := hide (idxI_hit hlt hx fun k hk => HN.out k hk (by omega))
        rw [hx] at PC
        clear hx hok
        generalize l[i] = tk at *
        obtain ⟨r, c, f, s, v⟩ := tk
        simp only at h0 h1 h2 h3 h4 PC
        unfold Ch.val at PC
        simp only at PC
        go_wp2_with fail
        refine PC.out.mono ?_
        rintro e w1 ⟨rfl, hb1⟩
        have HB1 := hide (HB.out.trans (hb1.mono HB.out.size))
        clear hb1
        go_wp2_with fail
        go_ret
        exact ⟨by rw [E.out]; rfl, HB1.out⟩
    · have E : Hid (idxI p l = -1) := hide (idxI_none fun k hk => HN.out k (by omega) hk)
      have ltI : ¬ (i : Int) < (l.length : Int) := by omega
      go_wp2_with fail
      go_ret
      exact ⟨by rw [E.out]; rfl, HB.out⟩
set_option maxRecDepth 100000 in
theorem contains_ag (A : Option Addr) (cap : Nat) (l : List Ch) (b0 : Addr) (p : Ch → Bool) (w : World) (h : CRow w A l) (hl : l.length ≤ 1000)
    (hp : ∀ (x : Ch) (w' : World), x ∈ l → Below w.heap.size w w' → Calls Try.prog 24 #[x.val, .pointer (some b0)] w' fun e w'' => e = .returned (.bool (p x)) ∧ Below w'.heap.size w' w'') :
    Calls Try.prog 23 #[.slice A l.length cap, .func (.func 24) #[] #[.pointer (some b0)]] w fun e w' => e = .returned (.bool (decide (0 ≤ idxI p l))) ∧ Below w.heap.size w w' := by
  have I := hide (index_ag A cap l b0 p w h hl hp)
  clear h hp
  generalize idxI p l = z at *
  go_enter Try.func23, Try.ntmps23
  go_wp2_with fail
  refine I.out.mono ?_
  rintro e w1 ⟨rfl, hb1⟩
  have HB1 := hide hb1
  clear hb1
  go_wp2_with fail
  go_ret
  exact ⟨rfl, HB1.out⟩
/-- Is a choice at that point? -/
def atP (rank call : Int) (x : Ch) : Bool := decide (x.r = rank) && decide (x.c = call)
end Go.Proofs.Ytnmaclpjddafnaa
