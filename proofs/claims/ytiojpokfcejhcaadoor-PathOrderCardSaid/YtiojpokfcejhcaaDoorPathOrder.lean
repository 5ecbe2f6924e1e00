/- The walk of the statement PathOrder: of any acts; without conditions. -/
import Derived.Test.YtiojpokfcejhcaaDoorRows
import Derived.Test.YtiojpokfcejhcaaDoorPathX
import Derived.Test.YtiojpokfcejhcaaDoorPathV
import Derived.Test.YtiojpokfcejhcaaDoorPathPl
import Derived.Test.YtiojpokfcejhcaaDoorPathN
import Derived.Test.YtiojpokfcejhcaaDoorRelV
import Derived.Test.YtiojpokfcejhcaaDoorQuietBelow
import Derived.LoopN
import Derived.Deep.CutRange
import Derived.Deep.RegionWith
namespace Go.Proofs.YtiojpokfcejhcaaDoor.PathOrderW
open Go Go.Joins Go.ChangeShapes Go.WideShapes Go.RowKit Go.Deep Go.Proofs.YtiojpokfcejhcaaDoor Go.Proofs.YtiojpokfcejhcaaDoor.Pth Go.Proofs.YtiojpokfcejhcaaDoor.PathTextsW
set_option linter.unusedVariables false
set_option linter.unusedSimpArgs false
theorem rem2 {k : Int} (h0 : 0 ≤ k) : Int.tmod k 2 = 0 ∨ Int.tmod k 2 = 1 := by
  rw [Int.tmod_eq_emod_of_nonneg h0]
  omega
/-- What a Push leaves of the program's stack. -/
def PostA (lo : Nat) (b : Bool) (T C : Nat) (ls : List Lv) (r c : Int) (vs : List Ch) (off : Bool) (w' : World) : Prop := match b with
  | true => ∃ (g cap' : Nat), lo ≤ g ∧ StA w' T C (ls ++ [(⟨r, c, some ⟨g, 0, none⟩, cap', vs, off, 0⟩ : Lv)])
  | false => StA w' T C ls
theorem PushA (lo : Nat) (b : Bool) (T C : Nat) (ls : List Lv) (r c : Int) (A : Option Addr) (cap : Nat) (vs : List Ch) (off : Bool) (w : World) (hb : decide (mayV r c vs) = b) (hlo : lo ≤ w.heap.size) (ht : StA w T C ls) (hCT : C ≤ T) (h : CRow w A vs) (hl : vs.length ≤ 1000) (hlt : ls.length < 2000) :
    Calls Tryd.prog 10 #[.pointer (some ⟨T, 0, none⟩), .agg #[.int .i64 r, .int .i64 c, .slice A vs.length cap], .bool off] w fun e w' => e = .returned (.int .i64 (bif b then 0 else 2)) ∧ PostA lo b T C ls r c vs off w' ∧ Below C w w' ∧ KeepsBut [59, 54] w w' ∧ Only (stB w T) w w' := by
  by_cases hm : mayV r c vs
  · rw [decide_eq_true hm] at hb
    subst hb
    refine (Push_yes T C ls r c A cap vs off w ht hCT h hl hm hlt).mono ?_
    rintro e w' ⟨rfl, ⟨g, cap', hg, hs⟩, hb, hk, v, hv, ho⟩
    have e : stB w T = T :: v.ownBlock.toList := by unfold stB; rw [hv]
    exact ⟨rfl, ⟨g, cap', Nat.le_trans hlo hg, hs⟩, hb, hk, by rw [e]; exact ho⟩
  · rw [decide_eq_false hm] at hb
    subst hb
    have E : pushE r c vs = 2 := by unfold pushE; rw [if_neg hm]
    have hp := Push_no T C ls r c A cap vs off w ht h hl (.inl hm)
    rw [E] at hp
    have hCw : C ≤ w.heap.size := by have := ht.lt; omega
    refine hp.mono ?_
    rintro e w' ⟨rfl, hb⟩
    exact ⟨rfl, ht.below hb, hb.mono hCw, KeepsBut.of_below hb, Only.of_below hb⟩
/-- The points that were put in, beside the levels. -/
structure Pts (w : World) (qs ls : List Lv) : Prop where
  vs : qs.map (·.vs) = ls.map (·.vs)
  ok : ∀ q ∈ qs, CRow w q.A q.vs ∧ q.vs.Nodup ∧ q.vs.length ≤ 100
theorem Pts.len {w : World} {qs ls : List Lv} (h : Pts w qs ls) : qs.length = ls.length := by
  have := congrArg List.length h.vs
  simpa using this
theorem Pts.app {w : World} {qs ls : List Lv} (h : Pts w qs ls) {q x : Lv} (hv : q.vs = x.vs) (hc : CRow w q.A q.vs) (hn : q.vs.Nodup) (hl : q.vs.length ≤ 100) : Pts w (qs ++ [q]) (ls ++ [x]) := by
  refine ⟨by rw [List.map_append, List.map_append, h.vs]; simp [hv], fun y hy => ?_⟩
  rcases List.mem_append.1 hy with hy | hy
  · exact h.ok y hy
  · rw [List.mem_singleton.1 hy]; exact ⟨hc, hn, hl⟩
theorem Pts.next {w : World} {qs L R : List Lv} {b : Lv} (h : Pts w qs (L ++ b :: R)) : Pts w (qs.take (L.length + 1)) (L ++ [b.on]) ∧ ∃ q, (qs.take (L.length + 1))[L.length]? = some q ∧ q.vs = b.vs ∧ CRow w q.A q.vs ∧ q.vs.Nodup ∧ q.vs.length ≤ 100 := by
  have hlen := h.len
  have hl : L.length < qs.length := by rw [hlen]; simp
  refine ⟨⟨?_, fun q hq => h.ok q (List.mem_of_mem_take hq)⟩, qs[L.length], ?_, ?_, h.ok _ (List.getElem_mem hl)⟩
  · rw [List.map_take, h.vs, List.map_append, List.map_append]
    rw [show (L.length + 1) = (L.map (·.vs)).length + 1 by simp, List.take_length_add_append]
    simp [Lv.on]
  · rw [List.getElem?_take, if_pos (by omega), List.getElem?_eq_getElem hl]
  · have h1 := congrArg (fun l : List (List Ch) => l[L.length]?) h.vs
    simp only [List.getElem?_map, List.getElem?_eq_getElem hl, Option.map_some] at h1
    rw [List.getElem?_append_right (Nat.le_refl _)] at h1
    simpa using h1
theorem ptCs_takeN : ∀ (l : List Lv) (n : Nat), (ptCs l).take (n * 3) = ptCs (l.take n)
  | [], n => by simp [ptCs]
  | t :: l, 0 => by simp [ptCs]
  | t :: l, n + 1 => by
    have e : (n + 1) * 3 = (Pth.ptC t).length + n * 3 := by rw [Pth.ptC_len]; omega
    rw [ptCs_cons, e, List.take_length_add_append, ptCs_takeN l n]
    rfl
theorem own_cut {w : World} {B c size n m : Nat} {A : Option Addr} {e : TypeId} {xs : List Value} (h : w.ownsRow B e size (.slice A n c) n xs) (hm : m ≤ n) : w.ownsRow B e size (.slice A m c) m (xs.take (m * size)) := by
  rcases h.2 with ⟨h1, h2⟩ | ⟨g', cap, cur, hv, _⟩
  · injection h1 with h3 _ h4
    subst h3
    subst h4
    subst h2
    have : m = 0 := by omega
    subst this
    exact ⟨by simp, .inl ⟨rfl, rfl⟩⟩
  · injection hv with h1
    subst h1
    exact own_shrink h hm
/-- The region of the push. -/
structure J11 (w2 : World) (b : Bool) (ls qs : List Lv) (r c : Int) (vs : List Ch) (off : Bool) (vp : Value) (V : Nat → Option Value) (w : World) : Prop where
  a0 : V 11 = none → StA w w2.heap.size w2.heap.size ls
  a1 : (V 11).isSome = true → PostA 0 b w2.heap.size w2.heap.size ls r c vs off w
  bl : Below w2.heap.size w2 w
  pt : w.ownsRow w2.heap.size 36 3 vp qs.length (ptCs qs)
theorem J11.plain {w2 : World} {b : Bool} {ls qs : List Lv} {r c : Int} {vs : List Ch} {off : Bool} {vp : Value} {V : Nat → Option Value} {w : World} {i : Nat} {v : Value} (h : J11 w2 b ls qs r c vs off vp V w) (hi : i ≠ 11) : J11 w2 b ls qs r c vs off vp (setV V i v) w := by
  have e : setV V i v 11 = V 11 := if_neg (by omega)
  exact ⟨by rw [e]; exact h.a0, by rw [e]; exact h.a1, h.bl, h.pt⟩
set_option maxRecDepth 100000 in
set_option maxHeartbeats 8000000 in
theorem walk {H : Type} {enc : TypeId × Value → H} {base : Nat} (W : World) (hP : Pow W) (v0 : Value) (d0 : DataW H) (p0 : List MemPlace) (o0 : Value.okWide Tryd.prog W .any base 41 v0) (r0 : DataW.Trod enc Tryd.prog W 0 (fun _ => true) true 41 v0 d0 p0) :
    Calls Tryd.prog 4 #[v0] W fun e w' => e = .returned (.bool true) ∧ Below W.heap.size W w' := by
  have HPI : Hid (∃ i, Tryd.prog.info? 36 = some i ∧ i.zero = some (.agg #[.int .i64 0, .int .i64 0, .slice none 0 0]) ∧ i.size = 3 ∧ i.bytes = 40) := hide (info_parts (by kernel_rfl))
  obtain ⟨A, n, lc, F, rfl, hn, hF⟩ := acts_of o0 r0
  clear o0 r0
  have AW := hide (awake_c W hP)
  have HF := hide hF
  clear hP hF hn
  go_enter Tryd.func4, Tryd.ntmps4
  go_wp2_with fail
  refine AW.out.mono ?_
  rintro e w1 ⟨rfl, hb1⟩
  have HF1 := hide (HF.out.below hb1)
  have GR := hide (Great_a A n lc F w1 HF1.out)
  have HB1 := hide hb1
  clear hb1
  go_wp2_with fail
  refine GR.out.mono ?_
  rintro e w2 ⟨hor, hb2⟩
  have HF2 := hide (HF1.out.below hb2)
  have HB2 := hide (HB1.out.trans (hb2.mono HB1.out.size))
  clear hb2 AW GR HF HF1 HB1
  rcases hor with rfl | ⟨rfl, hsm⟩
  · go_wp2_with fail
    go_ret
    exact ⟨rfl, HB2.out⟩
  have SM := hide hsm
  have NW := hide (New_a w2)
  clear hsm
  go_wp2_with fail
  refine NW.out.mono ?_
  rintro e w3 ⟨rfl, ht3, hb3⟩
  have S3 := hide (show StA w3 w2.heap.size w2.heap.size [] from ⟨by simp, ⟨_, ht3, rfl, .inl ⟨rfl, rfl⟩⟩, fun i hi => absurd hi (Nat.not_lt_zero i)⟩)
  have HB3 := hide hb3
  clear ht3 hb3 NW
  go_wp2_with fail
  go_loopw [4, 5] (fun vp vi wr => ∃ (k : Nat) (ls qs : List Lv), k ≤ n ∧ vi = .int .i64 k ∧ Hid (ls.length ≤ k) ∧ Hid (StA wr w2.heap.size w2.heap.size ls) ∧ Hid (∀ x ∈ ls, x.fit) ∧ Hid (Pts w2 qs ls) ∧ Hid (wr.ownsRow w2.heap.size 36 3 vp qs.length (ptCs qs)) ∧ Hid (Below w2.heap.size w2 wr)) (fun _ vi _ => n - (intOf vi).toNat)
  case atStart => exact ⟨0, [], [], by omega, rfl, hide (by simp), S3, hide (fun x hx => by cases hx), hide ⟨rfl, fun q hq => by cases hq⟩, hide ⟨rfl, .inl ⟨rfl, rfl⟩⟩, HB3⟩
  case round =>
    clear S3 HB3
    obtain ⟨k, ls, qs, hk, rfl, HL, HS, HFT, HPT, HO, HB⟩ := hrel
    by_cases hlt : k < n
    rotate_left
    · have hltI : ¬ (k : Int) < (n : Int) := by omega
      go_wp2_with fail
      go_ret
      exact ⟨rfl, HB2.out.trans (HB.out.mono HB2.out.size)⟩
    have hltI : (k : Int) < (n : Int) := by omega
    obtain ⟨a, rfl, c0, c1, c2, c3, c4, hcr, k0, k1, hal⟩ := HF2.out k hlt
    have hvs := SM.out.2 k hlt
    have hn200 := SM.out.1
    generalize F k = x at *
    obtain ⟨kind, r, c, xA, xcap, vs, off⟩ := x
    simp only at c0 c1 c2 c3 c4 hcr hvs
    have HC0 := hide (fun (w' : World) (h : Below w2.heap.size w2 w') => (h.cell hal).trans c0)
    have HC1 := hide (fun (w' : World) (h : Below w2.heap.size w2 w') => (h.cell (p := ⟨_, _, none⟩) hal).trans c1)
    have HC2 : Hid (∀ (w' : World), Below w2.heap.size w2 w' → w'.cell? ⟨(a.add (k * 5)).block, (a.add (k * 5)).off + 1 + 1, none⟩ = some (.int .i64 c)) := hide (fun (w' : World) (h : Below w2.heap.size w2 w') => (h.cell (p := ⟨_, _, none⟩) hal).trans c2)
    have HC3 : Hid (∀ (w' : World), Below w2.heap.size w2 w' → w'.cell? ⟨(a.add (k * 5)).block, (a.add (k * 5)).off + 1 + 2, none⟩ = some (.slice xA vs.length xcap)) := hide (fun (w' : World) (h : Below w2.heap.size w2 w') => (h.cell (p := ⟨_, _, none⟩) hal).trans c3)
    have HC4 := hide (fun (w' : World) (h : Below w2.heap.size w2 w') => (h.cell (p := ⟨_, _, none⟩) hal).trans c4)
    have HCR0 := hide hcr
    have HCR := hide (fun (w' : World) (h : Below w2.heap.size w2 w') => hcr.below h)
    have RM := hide (rem2 k0)
    have HKI := hide (And.intro k0 k1)
    have HVS := hide hvs
    have HN := hide hn200
    have d0 := HC0.out wr HB.out
    clear c0 c1 c2 c3 c4 hcr k0 k1 hvs hal hn200
    rcases RM.out with hm | hm
    · -- a push
      obtain ⟨b, hbm⟩ : ∃ b, decide (mayV r c vs) = b := ⟨_, rfl⟩
      have HBM := hide hbm
      clear hbm
      go_wp2_with fail
      let R : Nat → Value → World → Prop := fun sl u _ => match sl with
        | 28 => u = .pointer (some ⟨w2.heap.size, 0, none⟩)
        | 29 | 34 => u = .slice (some a) n lc
        | 30 | 35 => u = .int .i64 k
        | 31 | 36 => u = .pointer (some (a.add (k * 5)))
        | 32 => u = .pointer (some ⟨(a.add (k * 5)).block, (a.add (k * 5)).off + 1, none⟩)
        | 33 => u = .agg #[.int .i64 r, .int .i64 c, .slice xA vs.length xcap]
        | 37 => u = .pointer (some ⟨(a.add (k * 5)).block, (a.add (k * 5)).off + 4, none⟩)
        | 38 => u = .bool off
        | 39 => u = .int .i64 (bif b then 0 else 2)
        | 40 => u = .bool b
        | _ => True
      refine wp_region_relV R (fun _ _ => True) (J11 w2 b ls qs r c vs off _) (by kernel_rfl) (by kernel_rfl) (by kernel_rfl) (fun t v _ _ h1 _ => h1) ⟨fun _ => HS.out.below (Below.refl _ _).drew, fun h => (by cases h), HB.out.drew, HO.out.drew⟩ ?step11 ?fin11
      case step11 =>
        intro i o ho
        match i, ho with
        | 0, ho =>
          cases ho
          intro V aa wx hV hdep hval hj hsm hr
          have e3 : aa.tmps.getD 3 undef = .pointer (some ⟨w2.heap.size, 0, none⟩) := hsm 3 (by decide)
          rw [Array.getD_eq_getD_getElem?] at e3
          unfold Oper.wp
          simp only [execOp, Act.eval, Array.getD_eq_getD_getElem?, e3]
          go_simp
          exact ⟨_, rfl, rfl, hj.plain (by decide)⟩
        | 1, ho =>
          cases ho
          intro V aa wx hV hdep hval hj hsm hr
          have e0 : aa.tmps.getD 0 undef = .slice (some a) n lc := hsm 0 (by decide)
          rw [Array.getD_eq_getD_getElem?] at e0
          unfold Oper.wp
          simp only [execOp, Act.eval, Array.getD_eq_getD_getElem?, e0]
          go_simp
          exact ⟨_, rfl, rfl, hj.plain (by decide)⟩
        | 2, ho =>
          cases ho
          intro V aa wx hV hdep hval hj hsm hr
          have e5 : aa.tmps.getD 5 undef = .int .i64 k := hsm 5 (by decide)
          rw [Array.getD_eq_getD_getElem?] at e5
          unfold Oper.wp
          simp only [execOp, Act.eval, Array.getD_eq_getD_getElem?, e5]
          go_simp
          exact ⟨_, rfl, rfl, hj.plain (by decide)⟩
        | 3, ho =>
          cases ho
          intro V aa wx hV hdep hval hj hsm hr
          have e29 : aa.tmps.getD 29 undef = .slice (some a) n lc := hr 29 (by decide) (by apply Array.mem_toList_iff.1; repeat (first | exact List.Mem.head _ | apply List.Mem.tail))
          have e30 : aa.tmps.getD 30 undef = .int .i64 k := hr 30 (by decide) (by apply Array.mem_toList_iff.1; repeat (first | exact List.Mem.head _ | apply List.Mem.tail))
          rw [Array.getD_eq_getD_getElem?] at e29
          rw [Array.getD_eq_getD_getElem?] at e30
          unfold Oper.wp
          simp only [execOp, Act.eval, Array.getD_eq_getD_getElem?, e29, e30]
          go_simp
          exact ⟨_, rfl, rfl, hj.plain (by decide)⟩
        | 4, ho =>
          cases ho
          intro V aa wx hV hdep hval hj hsm hr
          have e31 : aa.tmps.getD 31 undef = .pointer (some (a.add (k * 5))) := hr 31 (by decide) (by apply Array.mem_toList_iff.1; repeat (first | exact List.Mem.head _ | apply List.Mem.tail))
          rw [Array.getD_eq_getD_getElem?] at e31
          unfold Oper.wp
          simp only [execOp, Act.eval, Array.getD_eq_getD_getElem?, e31]
          go_simp
          exact ⟨_, rfl, rfl, hj.plain (by decide)⟩
        | 5, ho =>
          cases ho
          intro V aa wx hV hdep hval hj hsm hr
          have e32 : aa.tmps.getD 32 undef = .pointer (some ⟨(a.add (k * 5)).block, (a.add (k * 5)).off + 1, none⟩) := hr 32 (by decide) (by apply Array.mem_toList_iff.1; repeat (first | exact List.Mem.head _ | apply List.Mem.tail))
          have d1 := HC1.out wx hj.bl
          have d2 := HC2.out wx hj.bl
          have d3 := HC3.out wx hj.bl
          rw [Array.getD_eq_getD_getElem?] at e32
          unfold Oper.wp
          simp only [execOp, Act.eval, Array.getD_eq_getD_getElem?, e32]
          go_simp
          exact ⟨_, rfl, rfl, hj.plain (by decide)⟩
        | 6, ho =>
          cases ho
          intro V aa wx hV hdep hval hj hsm hr
          have e0 : aa.tmps.getD 0 undef = .slice (some a) n lc := hsm 0 (by decide)
          rw [Array.getD_eq_getD_getElem?] at e0
          unfold Oper.wp
          simp only [execOp, Act.eval, Array.getD_eq_getD_getElem?, e0]
          go_simp
          exact ⟨_, rfl, rfl, hj.plain (by decide)⟩
        | 7, ho =>
          cases ho
          intro V aa wx hV hdep hval hj hsm hr
          have e5 : aa.tmps.getD 5 undef = .int .i64 k := hsm 5 (by decide)
          rw [Array.getD_eq_getD_getElem?] at e5
          unfold Oper.wp
          simp only [execOp, Act.eval, Array.getD_eq_getD_getElem?, e5]
          go_simp
          exact ⟨_, rfl, rfl, hj.plain (by decide)⟩
        | 8, ho =>
          cases ho
          intro V aa wx hV hdep hval hj hsm hr
          have e34 : aa.tmps.getD 34 undef = .slice (some a) n lc := hr 34 (by decide) (by apply Array.mem_toList_iff.1; repeat (first | exact List.Mem.head _ | apply List.Mem.tail))
          have e35 : aa.tmps.getD 35 undef = .int .i64 k := hr 35 (by decide) (by apply Array.mem_toList_iff.1; repeat (first | exact List.Mem.head _ | apply List.Mem.tail))
          rw [Array.getD_eq_getD_getElem?] at e34
          rw [Array.getD_eq_getD_getElem?] at e35
          unfold Oper.wp
          simp only [execOp, Act.eval, Array.getD_eq_getD_getElem?, e34, e35]
          go_simp
          exact ⟨_, rfl, rfl, hj.plain (by decide)⟩
        | 9, ho =>
          cases ho
          intro V aa wx hV hdep hval hj hsm hr
          have e36 : aa.tmps.getD 36 undef = .pointer (some (a.add (k * 5))) := hr 36 (by decide) (by apply Array.mem_toList_iff.1; repeat (first | exact List.Mem.head _ | apply List.Mem.tail))
          rw [Array.getD_eq_getD_getElem?] at e36
          unfold Oper.wp
          simp only [execOp, Act.eval, Array.getD_eq_getD_getElem?, e36]
          go_simp
          exact ⟨_, rfl, rfl, hj.plain (by decide)⟩
        | 10, ho =>
          cases ho
          intro V aa wx hV hdep hval hj hsm hr
          have e37 : aa.tmps.getD 37 undef = .pointer (some ⟨(a.add (k * 5)).block, (a.add (k * 5)).off + 4, none⟩) := hr 37 (by decide) (by apply Array.mem_toList_iff.1; repeat (first | exact List.Mem.head _ | apply List.Mem.tail))
          have d1 := HC4.out wx hj.bl
          rw [Array.getD_eq_getD_getElem?] at e37
          unfold Oper.wp
          simp only [execOp, Act.eval, Array.getD_eq_getD_getElem?, e37]
          go_simp
          exact ⟨_, rfl, rfl, hj.plain (by decide)⟩
        | 11, ho =>
          cases ho
          intro V aa wx hV hdep hval hj hsm hr
          have e28 : aa.tmps.getD 28 undef = .pointer (some ⟨w2.heap.size, 0, none⟩) := hr 28 (by decide) (by apply Array.mem_toList_iff.1; repeat (first | exact List.Mem.head _ | apply List.Mem.tail))
          have e33 : aa.tmps.getD 33 undef = .agg #[.int .i64 r, .int .i64 c, .slice xA vs.length xcap] := hr 33 (by decide) (by apply Array.mem_toList_iff.1; repeat (first | exact List.Mem.head _ | apply List.Mem.tail))
          have e38 : aa.tmps.getD 38 undef = .bool off := hr 38 (by decide) (by apply Array.mem_toList_iff.1; repeat (first | exact List.Mem.head _ | apply List.Mem.tail))
          rw [Array.getD_eq_getD_getElem?] at e28
          rw [Array.getD_eq_getD_getElem?] at e33
          rw [Array.getD_eq_getD_getElem?] at e38
          unfold Oper.wp
          simp only [execOp, Act.eval, Array.getD_eq_getD_getElem?, e28, e33, e38]
          go_simp
          refine (PushA 0 b w2.heap.size w2.heap.size ls r c xA xcap vs off wx HBM.out (Nat.zero_le _) (hj.a0 hV) (Nat.le_refl _) (HCR.out wx hj.bl) (by have := HVS.out; omega) (by have := HL.out; have := HN.out; omega)).mono ?_
          rintro e w' ⟨rfl, hp, hb, hk, _⟩
          refine ⟨_, rfl, rfl, ⟨fun h => ?_, fun _ => hp, hj.bl.trans hb, KeepsBut.own hk hj.pt (by decide)⟩⟩
          rw [show setV V 11 _ 11 = some _ from if_pos rfl] at h
          cases h
        | 12, ho =>
          cases ho
          intro V aa wx hV hdep hval hj hsm hr
          have e39 : aa.tmps.getD 39 undef = .int .i64 (bif b then 0 else 2) := hr 39 (by decide) (by apply Array.mem_toList_iff.1; repeat (first | exact List.Mem.head _ | apply List.Mem.tail))
          rw [Array.getD_eq_getD_getElem?] at e39
          unfold Oper.wp
          clear HBM
          cases b with
          | false =>
            have e39 : (aa.tmps[39]?).getD undef = .int .i64 2 := e39
            simp only [execOp, Act.eval, Array.getD_eq_getD_getElem?, e39]
            go_simp
            exact ⟨_, rfl, rfl, hj.plain (by decide)⟩
          | true =>
            have e39 : (aa.tmps[39]?).getD undef = .int .i64 0 := e39
            simp only [execOp, Act.eval, Array.getD_eq_getD_getElem?, e39]
            go_simp
            exact ⟨_, rfl, rfl, hj.plain (by decide)⟩
        | i + 13, ho => cases ho
      case fin11 =>
        intro ff V wi hVs hj hr
        have h11 : (V 11).isSome = true := by rw [hVs 11 _ rfl]; rfl
        have e40 : ff 40 = .bool b := hr 40 (by decide)
        have hpost := hj.a1 h11
        have HBI := hide hj.bl
        have HOI := hide hj.pt
        clear hVs hj hr h11
        simp only [putAll, slotsOf, List.take, List.drop, List.filterMap_cons, List.filterMap_nil, List.foldl_cons, List.foldl_nil, Act.put, e40]
        simp only [List.setIfInBounds_toArray, List.set_cons_succ, List.set_cons_zero]
        cases b with
        | false =>
          have S5 : Hid (StA wi w2.heap.size w2.heap.size ls) := hide hpost
          clear hpost
          have hn200 := HN.out
          go_wp2_with fail
          go_roundw
          case rel => exact ⟨k + 1, ls, qs, by omega, by go_num, hide (by have := HL.out; omega), S5, HFT, HPT, HOI, HBI⟩
          case measure => simp [intOf]; omega
        | true =>
          obtain ⟨g, cap', _, hst⟩ : ∃ (g cap' : Nat), 0 ≤ g ∧ StA wi w2.heap.size w2.heap.size (ls ++ [(⟨r, c, some ⟨g, 0, none⟩, cap', vs, off, 0⟩ : Lv)]) := hpost
          have hmv : mayV r c vs := of_decide_eq_true HBM.out
          have S5 := hide hst
          have FT5 : Hid (∀ x ∈ ls ++ [(⟨r, c, some ⟨g, 0, none⟩, cap', vs, off, 0⟩ : Lv)], x.fit) := hide fun x hx => by
            rcases List.mem_append.1 hx with hx | hx
            · exact HFT.out x hx
            · rw [List.mem_singleton.1 hx]
              exact ⟨hmv.1, HVS.out, by show 0 + 1 ≤ vs.length + _; have := hmv.1; omega⟩
          have PT5 := hide (HPT.out.app (q := ⟨r, c, xA, xcap, vs, off, 0⟩) (x := ⟨r, c, some ⟨g, 0, none⟩, cap', vs, off, 0⟩) rfl HCR0.out hmv.2.2 HVS.out)
          have HL5 : Hid ((ls ++ [(⟨r, c, some ⟨g, 0, none⟩, cap', vs, off, 0⟩ : Lv)]).length ≤ k + 1) := hide (by have := HL.out; simp; omega)
          have d1 := HC1.out wi HBI.out
          have d2 := HC2.out wi HBI.out
          have d3 := HC3.out wi HBI.out
          have hql : qs.length ≤ 200 := by have := HPT.out.len; have := HL.out; have := HN.out; omega
          have hbw : w2.heap.size ≤ wi.heap.size := HBI.out.size
          -- the point behind the others
          have hba := (Below.refl wi.heap.size wi).alloc (Nat.le_refl _) (.cells #[.int .i64 r, .int .i64 c, .slice xA vs.length xcap] 36)
          have hbb := Blk.new wi 36 #[.int .i64 r, .int .i64 c, .slice xA vs.length xcap]
          have ow := own_belowR HOI.out hba
          obtain ⟨Wz, hWz⟩ : ∃ x, wi.alloc (.cells #[.int .i64 r, .int .i64 c, .slice xA vs.length xcap] 36) = x := ⟨_, rfl⟩
          rw [hWz] at hba hbb ow
          have hrd : Reads Wz Wz.heap.size 3 (some ⟨wi.heap.size, 0, none⟩) 1 [.int .i64 r, .int .i64 c, .slice xA vs.length xcap] := ⟨rfl, fun _ => ⟨_, rfl, hbb.lt, fun j u hu => by rw [add_lit, hbb.cell]; simpa using hu⟩⟩
          obtain ⟨i0, hi0, hz0, hz1, hz2⟩ := HPI.out
          obtain ⟨v11, w11, hrun, hown, hk11, _⟩ := run_append_any (P := Tryd.prog) Wz w2.heap.size 43 43 36 i0 _ 3 40 Tryd.underlying43 hi0 hz0 hz1 hz2 (by rfl) (by omega) _ _ _ ow Wz.heap.size (some ⟨wi.heap.size, 0, none⟩) 1 1 _ hrd (by intro u hu; simp only [List.mem_cons, List.not_mem_nil, or_false] at hu; rcases hu with rfl | rfl | rfl <;> rfl) (by unfold maxLen; omega) (by omega) (Nat.le_trans hbw hba.size)
          have kk := grown_keeps ow hk11
          have S6 := hide (StA.keep (S5.out.below hba) kk (by decide) (by decide) (by decide))
          have HB6 := hide ((HBI.out.trans (hba.mono hbw)).grown hk11 (Nat.le_trans hbw hba.size) fun j e => (own_block ow e).1)
          have HO6 : Hid (w11.ownsRow w2.heap.size 36 3 v11 (qs ++ [(⟨r, c, xA, xcap, vs, off, 0⟩ : Lv)]).length (ptCs (qs ++ [(⟨r, c, xA, xcap, vs, off, 0⟩ : Lv)]))) := hide (by rw [ptCs_app, List.length_append]; exact hown)
          obtain ⟨ap, cp, rfl⟩ := own_form HOI.out
          have hn200 := HN.out
          clear hst hba hbb ow hrd hi0 hz0 hz1 hz2 hown hk11 kk hmv
          go_wp2_with (at_builtin; refine Lib.wpList_append_run _ rfl (.tmp 41) (.tmp 47) _ _ rfl _ _ rfl rfl _ w11 hrun ?_)
          go_roundw
          case rel => exact ⟨k + 1, _, _, by omega, by go_num, HL5, S6, FT5, PT5, HO6, HB6⟩
          case measure => simp [intOf]; omega
    · -- going on
      have SA := hide (Steps_a w2.heap.size _ ls wr HS.out HFT.out)
      go_wp2_with fail
      refine SA.out.mono ?_
      rintro e wa ⟨va, rfl, hoa, hba⟩
      have Sa := hide (HS.out.below hba)
      have HBa := hide (HB.out.trans (hba.mono HB.out.size))
      have HOa := hide (own_belowR HO.out hba)
      have ROW1 := hide (own_more hoa HB.out.size)
      have NX := hide (Next_a w2.heap.size _ ls wa Sa.out (Nat.le_refl _) HFT.out)
      clear hoa hba d0 SA
      obtain ⟨bz, hbz⟩ : ∃ x, decide (0 < (nextL ls).length) = x := ⟨_, rfl⟩
      rw [hbz] at NX
      have HBZ := hide hbz
      clear hbz
      go_wp2_with fail
      refine NX.out.mono ?_
      rintro e wb ⟨rfl, hsb, hbb, hob, _⟩
      have kb := Sa.out.keeps hob
      have Sb := hide hsb
      have HBb := hide (HBa.out.trans hbb)
      have HOb := hide (KeepsBut.own kb HOa.out (by decide))
      have ROW1 := hide (KeepsBut.own kb ROW1.out (by decide))
      have FTb := hide (nextL_fit HFT.out)
      have SB := hide (Steps_a w2.heap.size _ (nextL ls) wb hsb FTb.out)
      clear hsb hbb hob kb NX
      go_wp2_with fail
      refine SB.out.mono ?_
      rintro e wc ⟨vc, rfl, hoc, hbc⟩
      have Sc := hide (Sb.out.below hbc)
      have HBc := hide (HBb.out.trans (hbc.mono HBb.out.size))
      have HOc := hide (own_belowR HOb.out hbc)
      have ROW1 := hide (own_belowR ROW1.out hbc)
      have ROW2 := hide (own_more hoc HBb.out.size)
      clear hoc hbc SB
      obtain ⟨a1, c1, rfl⟩ := own_form ROW1.out
      obtain ⟨a2, c2, rfl⟩ := own_form ROW2.out
      obtain ⟨ap, cp, rfl⟩ := own_form HOc.out
      have hql : qs.length = ls.length := HPT.out.len
      have hl200 : ls.length ≤ 200 := by have := HL.out; have := HN.out; omega
      have hlp : qs.length ≤ cp := own_cap HOc.out
      have hl1 : ls.length ≤ c1 := own_cap ROW1.out
      have hl2 : (nextL ls).length ≤ c2 := own_cap ROW2.out
      rcases nextL_form ls with hnx | ⟨L, bb, R, hls, hnx, hlf⟩
      · -- nothing is left
        have ROW2 := ROW2.out
        rw [hnx] at hl2
        have Sc2 := Sc.out
        have FT2 := FTb.out
        rw [hnx] at Sc2 FT2
        have Sc2 := hide Sc2
        have FT2 := hide FT2
        have hb0 := HBZ.out
        rw [hnx] at hb0
        have hb0 : false = bz := hb0
        subst hb0
        have HO2 : Hid (wc.ownsRow w2.heap.size 36 3 (.slice ap 0 cp) ([] : List Lv).length (ptCs [])) := hide (by have := own_cut HOc.out (Nat.zero_le qs.length); simpa [ptCs] using this)
        have HNX := hide hnx
        have hl0 : (nextL ls).length = 0 := by rw [hnx]; rfl
        have hltI2 : ¬ (ls.length : Int) < 0 := by omega
        have HQL := hide hql
        rw [hql] at hlp ⊢
        rw [hl0]
        have hn200 := HN.out
        clear hnx ROW2 hl0 hql
        go_wp2_with fail
        go_roundw
        case rel => exact ⟨k + 1, [], [], by omega, by go_num, hide (by simp), Sc2, FT2, hide ⟨rfl, fun q hq => by cases hq⟩, HO2, HBc⟩
        case measure => simp [intOf]; omega
      · -- one level goes on
        have hb0 := HBZ.out
        have e8 : (nextL ls).length = L.length + 1 := by rw [hnx]; simp
        rw [e8] at hb0 hl2
        have hb0 : true = bz := by rw [← hb0]; exact (decide_eq_true (by omega)).symm
        subst hb0
        have hml : L.length + 1 ≤ ls.length := by rw [hls]; simp
        have PN := HPT.out
        rw [hls] at PN
        obtain ⟨PN1, q, hq, hqv, hqc, hqn, hqb⟩ := PN.next
        have HPN := hide (show Pts w2 (qs.take (L.length + 1)) (nextL ls) by rw [hnx]; exact PN1)
        have hqt : (qs.take (L.length + 1)).length = L.length + 1 := by rw [List.length_take]; omega
        have o4 := own_cut HOc.out (show L.length + 1 ≤ qs.length by omega)
        rw [ptCs_takeN] at o4
        have HO4 : Hid (wc.ownsRow w2.heap.size 36 3 (.slice ap (L.length + 1) cp) (qs.take (L.length + 1)).length (ptCs (qs.take (L.length + 1)))) := hide (by rw [hqt]; exact o4)
        have es1 : (stepsOf ls).take L.length = stepsOf L := by rw [hls]; simp [stepsOf]
        have es2 : (stepsOf (nextL ls)).take L.length = stepsOf L := by rw [hnx]; simp [stepsOf]
        have o1 := own_cut ROW1.out (show L.length ≤ ls.length by omega)
        rw [spCs_take, es1] at o1
        have o2 := own_cut ROW2.out (show L.length ≤ (nextL ls).length by omega)
        rw [spCs_take, es2] at o2
        have hsL : L.length = (stepsOf L).length := by simp [stepsOf]
        have SMB := hide (fun (p : BelowOf wc) => Same_b _ _ _ _ (stepsOf L) p.world (by rw [← hsL]; exact own_belowR o2 p.below) (by rw [← hsL]; exact own_belowR o1 p.below) (by rw [← hsL]; omega))
        -- the two steps
        have hk1 : L.length < (stepsOf ls).length := by simp [stepsOf]; omega
        have hk2 : L.length < (stepsOf (nextL ls)).length := by simp [stepsOf]; omega
        have hg1 : (stepsOf ls)[L.length] = stepOf bb.r bb.c bb.vs bb.at_ := by simp [stepsOf, hls]
        have hg2 : (stepsOf (nextL ls))[L.length] = stepOf bb.r bb.c bb.vs (bb.at_ + 1) := by simp [stepsOf, hnx, Lv.on]
        obtain ⟨g1, rfl, p0, p1, p2, p3, p4, p5, p6, p7⟩ := own_sp ROW1.out L.length hk1 (by omega)
        obtain ⟨g2, rfl, r0, r1, r2, r3, r4, r5, r6, r7⟩ := own_sp ROW2.out L.length hk2 (by omega)
        rw [hg1] at p0 p1 p2 p3 p4 p5 p6 p7
        rw [hg2] at r0 r1 r2 r3 r4 r5 r6 r7
        obtain ⟨gp, rfl, _, _, _, _, _, hcp⟩ := own_cell HO4.out (by omega)
        have hql1 : L.length < (qs.take (L.length + 1)).length := by omega
        have hq' : (qs.take (L.length + 1))[L.length] = q := by rw [List.getElem?_eq_getElem hql1] at hq; exact Option.some.inj hq
        have pt : ∀ j u, j < 3 → (Pth.ptC q)[j]? = some u → wc.cell? ⟨gp, L.length * 3 + j, none⟩ = some u := fun j u hj hu => hcp _ _ (by rw [ptCs_at _ _ hql1 j hj, hq']; exact hu)
        have t0 : wc.cell? ⟨gp, L.length * 3, none⟩ = some (.int .i64 q.r) := pt 0 _ (by omega) rfl
        have t1 := pt 1 _ (by omega) rfl
        have t2 := pt 2 _ (by omega) rfl
        have hbf := HFT.out bb (by rw [hls]; simp)
        have hat : bb.at_ + 1 ≤ bb.vs.length := by
          unfold leftN many at hlf
          split at hlf <;> omega
        have hat100 : bb.at_ ≤ 100 := by have := hbf.2.1; omega
        have hnd : bb.vs.Nodup := by rw [← hqv]; exact hqn
        have PL1 := PlaceAt.of_step (r := bb.r) (c := bb.c) hnd (show bb.at_ ≤ bb.vs.length by omega)
        have PL2 := PlaceAt.of_step (r := bb.r) (c := bb.c) hnd hat
        rw [← hqv] at PL1 PL2
        have hoff : (stepOf bb.r bb.c bb.vs bb.at_).off = false := by unfold stepOf; rw [if_neg (by omega)]
        rw [hoff] at p0
        rw [hqv] at PL1 PL2
        rw [hoff] at PL1
        generalize stepOf bb.r bb.c bb.vs bb.at_ = s1 at *
        generalize stepOf bb.r bb.c bb.vs (bb.at_ + 1) = s2 at *
        obtain ⟨f1, sr1, sc1, ⟨y0, y1, y2, y3, y4⟩⟩ := s1
        obtain ⟨f2, sr2, sc2, ⟨z0, z1, z2, z3, z4⟩⟩ := s2
        rw [← hqv] at PL1 PL2
        obtain ⟨qr, qc, qA, qcap, qvs, qoff, qat⟩ := q
        simp only at p0 p1 p2 p3 p4 p5 p6 p7 r0 r1 r2 r3 r4 r5 r6 r7 t0 t1 t2 hqc hqb PL1 PL2
        have hne : Nonempty (BelowOf wc) := ⟨⟨_, Below.refl _ _⟩⟩
        have HCq := hide (fun (p : BelowOf wc) => hqc.below (HBc.out.trans (p.below.mono HBc.out.size)))
        obtain ⟨zk, hzk⟩ : ∃ x, bb.at_ = x := ⟨_, rfl⟩
        rw [hzk] at PL1 PL2 hat100
        have PC1 := hide (fun (p : BelowOf wc) => place_c qr qc qA qcap qvs false sr1 sc1 ⟨y0, y1, y2, y3, y4⟩ zk p.world (HCq.out p) (by omega) PL1)
        have PC2 : Hid (∀ p : BelowOf wc, Calls Tryd.prog 16 #[.agg #[.int .i64 qr, .int .i64 qc, .slice qA qvs.length qcap], .agg #[.bool f2, .int .i64 sr2, .int .i64 sc2, .int .i64 z0, .int .i64 z1, .int .i64 z2, .int .i64 z3, .int .i64 z4]] p.world fun e w' => e = .returned (.int .i64 ((zk : Int) + 1)) ∧ Below p.world.heap.size p.world w') := hide (fun (p : BelowOf wc) => by
          have := place_c qr qc qA qcap qvs f2 sr2 sc2 ⟨z0, z1, z2, z3, z4⟩ (zk + 1) p.world (HCq.out p) (by omega) PL2
          rw [show (((zk + 1 : Nat)) : Int) = (zk : Int) + 1 by omega] at this
          exact this)
        have Cp0 := hide (fun (p : BelowOf wc) => p.cell (block_lt_of_cell p0) p0)
        have Cp1 := hide (fun (p : BelowOf wc) => p.cell (block_lt_of_cell p1) p1)
        have Cp2 := hide (fun (p : BelowOf wc) => p.cell (block_lt_of_cell p2) p2)
        have Cp3 := hide (fun (p : BelowOf wc) => p.cell (block_lt_of_cell p3) p3)
        have Cp4 := hide (fun (p : BelowOf wc) => p.cell (block_lt_of_cell p4) p4)
        have Cp5 := hide (fun (p : BelowOf wc) => p.cell (block_lt_of_cell p5) p5)
        have Cp6 := hide (fun (p : BelowOf wc) => p.cell (block_lt_of_cell p6) p6)
        have Cp7 := hide (fun (p : BelowOf wc) => p.cell (block_lt_of_cell p7) p7)
        have Cr0 := hide (fun (p : BelowOf wc) => p.cell (block_lt_of_cell r0) r0)
        have Cr1 := hide (fun (p : BelowOf wc) => p.cell (block_lt_of_cell r1) r1)
        have Cr2 := hide (fun (p : BelowOf wc) => p.cell (block_lt_of_cell r2) r2)
        have Cr3 := hide (fun (p : BelowOf wc) => p.cell (block_lt_of_cell r3) r3)
        have Cr4 := hide (fun (p : BelowOf wc) => p.cell (block_lt_of_cell r4) r4)
        have Cr5 := hide (fun (p : BelowOf wc) => p.cell (block_lt_of_cell r5) r5)
        have Cr6 := hide (fun (p : BelowOf wc) => p.cell (block_lt_of_cell r6) r6)
        have Cr7 := hide (fun (p : BelowOf wc) => p.cell (block_lt_of_cell r7) r7)
        have Ct0 := hide (fun (p : BelowOf wc) => p.cell (block_lt_of_cell t0) t0)
        have Ct1 := hide (fun (p : BelowOf wc) => p.cell (block_lt_of_cell t1) t1)
        have Ct2 := hide (fun (p : BelowOf wc) => p.cell (block_lt_of_cell t2) t2)
        obtain ⟨M, hM⟩ : ∃ x, L.length = x := ⟨_, rfl⟩
        have HM := hide hM
        rw [hM] at SMB hml hl2 HO4 HPN e8 Cp0 Cp1 Cp2 Cp3 Cp4 Cp5 Cp6 Cp7 Cr0 Cr1 Cr2 Cr3 Cr4 Cr5 Cr6 Cr7 Ct0 Ct1 Ct2
        have HE8 := hide e8
        have HQL := hide hql
        rw [e8]
        rw [hql] at hlp ⊢
        have hM200 : M + 1 ≤ 200 := by omega
        have hn200 := HN.out
        have hltI2 : ¬ (ls.length : Int) < (M : Int) + 1 := by omega
        have hleI2 : (M : Int) + 1 ≤ (ls.length : Int) := by omega
        clear PN PN1 hq hqv hqc hqn hqb hqt o4 es1 es2 o1 o2 hsL hk1 hk2 hg1 hg2 hcp hql1 hq' pt hbf hat hnd PL1 PL2 hoff hzk hM hnx hls hlf hql e8 p0 p1 p2 p3 p4 p5 p6 p7 r0 r1 r2 r3 r4 r5 r6 r7 t0 t1 t2
        go_wp2_with fail
        have HQT := hide (show nextL ls = nextL ls from rfl)
        have xp0 := Cp0.out
        have xp1 := Cp1.out
        have xp2 := Cp2.out
        have xp3 := Cp3.out
        have xp4 := Cp4.out
        have xp5 := Cp5.out
        have xp6 := Cp6.out
        have xp7 := Cp7.out
        have xr0 := Cr0.out
        have xr1 := Cr1.out
        have xr2 := Cr2.out
        have xr3 := Cr3.out
        have xr4 := Cr4.out
        have xr5 := Cr5.out
        have xr6 := Cr6.out
        have xr7 := Cr7.out
        have xt0 := Ct0.out
        have xt1 := Ct1.out
        have xt2 := Ct2.out
        refine wp_region_quiet_below (by kernel_rfl) (by kernel_rfl) ?_
        repeat (go_big_quiet_step (first
          | (go_at_call 13; exact calls_below (SMB.out _))
          | (go_at_call_of 16 (Value.bool f2); exact calls_below (PC2.out _))
          | (go_at_call_of 16 (Value.int IntKind.i64 y0); exact calls_below (PC1.out _))))
        refine wpQuiet_nil ?_
        rintro Wq ⟨⟨_, hq⟩, rfl⟩
        have Sq := hide (Sc.out.below hq)
        have Oq := hide (own_belowR HO4.out hq)
        have HBq := hide (HBc.out.trans (hq.mono HBc.out.size))
        have hLq := hide (show (nextL ls).length ≤ k + 1 by rw [HE8.out]; have := HL.out; omega)
        clear hq xp0 xp1 xp2 xp3 xp4 xp5 xp6 xp7 xr0 xr1 xr2 xr3 xr4 xr5 xr6 xr7 xt0 xt1 xt2
        go_wp2_with fail
        go_roundw
        case rel => exact ⟨k + 1, nextL ls, _, by omega, by go_num, hLq, Sq, FTb, HPN, Oq, HBq⟩
        case measure => simp [intOf]; omega
end Go.Proofs.YtiojpokfcejhcaaDoor.PathOrderW
