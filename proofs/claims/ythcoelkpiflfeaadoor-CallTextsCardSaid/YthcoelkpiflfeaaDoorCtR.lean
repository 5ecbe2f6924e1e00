/- What the document's Parse has come to: in plain words; how its boxes lie. -/
import Derived.Test.YthcoelkpiflfeaaDoorRows
import Derived.Test.YthcoelkpiflfeaaDoorCtH
import Derived.Test.YthcoelkpiflfeaaDoorCtQ
namespace Go.Proofs.YthcoelkpiflfeaaDoor
open Go Go.RowKit Go.Lib Go.Proofs.YthcoelkpiflfeaaDoor.Grp
set_option linter.unusedVariables false
set_option linter.unusedSimpArgs false
namespace Cal
open TreeCallsW (names callOf callOf_at callOf_none)
open Wit (rdB rdB_itoa rdB_sound)
theorem nbF_fit : ∀ (its : List (List UInt8)) (i : Nat) (l : List Int), nbF its i = some l → l.length = i ∧ ∀ z ∈ l, Told.Fit z
  | its, 0, l, h => by
    rw [nbF] at h
    cases h
    exact ⟨rfl, fun z hz => absurd hz List.not_mem_nil⟩
  | its, i + 1, l, h => by
    rw [nbF] at h
    cases hn : nbF its i with
    | none => rw [hn] at h; cases h
    | some l0 =>
      rw [hn] at h
      obtain ⟨h1, h2⟩ := nbF_fit its i l0 hn
      simp only at h
      split at h
      · rename_i hr
        cases h
        refine ⟨by rw [List.length_append, h1]; rfl, fun z hz => ?_⟩
        rcases List.mem_append.1 hz with hz | hz
        · exact h2 z hz
        · rw [List.mem_singleton.1 hz]; exact (rdB_sound hr).2
      · cases h
theorem nbF_yes {its : List (List UInt8)} {i : Nat} {l : List Int} (h : nbF its i = some l) (h2 : (rdB (its.getD i [])).2 = true) : nbF its (i + 1) = some (l ++ [(rdB (its.getD i [])).1]) := by
  rw [nbF, h]
  exact if_pos h2
theorem nbF_no {its : List (List UInt8)} {i : Nat} {l : List Int} (h : nbF its i = some l) (h2 : (rdB (its.getD i [])).2 = false) : ∀ n, i < n → nbF its n = none
  | 0, hn => absurd hn (by omega)
  | n + 1, hn => by
    rw [nbF]
    by_cases e : n = i
    · subst e
      rw [h]
      exact if_neg (by rw [h2]; decide)
    · rw [nbF_no h h2 n (by omega)]
/-- The items that are numbers; the reduction's number. -/
def itsB (k : Int) (args : List (List UInt8)) : List (List UInt8) := if redK k then args.dropLast else args
def opB (k : Int) (args : List (List UInt8)) : Int := if redK k then redB (args.getLastD []) else 0
theorem readB_no1 {s : List UInt8} (h : ptB s = none) : readB s = none := by unfold readB; rw [h]
theorem readB_no2 {s wd : List UInt8} {args : List (List UInt8)} (h : ptB s = some (wd, args)) (h0 : ((callOf wd : Nat) : Int) = 0) : readB s = none := by
  unfold readB
  rw [h]
  exact if_pos (by omega)
theorem readB_eq {s wd : List UInt8} {args : List (List UInt8)} {k : Int} (h : ptB s = some (wd, args)) (hk : ((callOf wd : Nat) : Int) = k) (h0 : ¬ k = 0) :
    readB s = (match nbF (itsB k args) (itsB k args).length with | none => none | some l => setB k (opB k args) l) := by
  unfold readB
  rw [h]
  simp only
  rw [if_neg (by omega), hk]
  unfold itsB opB
  by_cases hr : redK k
  · rw [if_pos hr, if_pos hr, if_pos hr]
    cases nbF args.dropLast args.dropLast.length <;> rfl
  · rw [if_neg hr, if_neg hr, if_neg hr]
    cases nbF args args.length <;> rfl
theorem redB_is {x : List UInt8} {i : Nat} (h : i ≤ 3) (h1 : ∀ j : Nat, j < i → ¬ redL (j : Int) = x) (h2 : i = 3 ∨ redL (i : Int) = x) : redB x = (i : Int) := by
  have a0 : 0 < i → ¬ x = [115, 117, 109] := fun hi e => h1 0 hi (by rw [e]; rfl)
  have a1 : 1 < i → ¬ x = [109, 97, 120] := fun hi e => h1 1 hi (by rw [e]; rfl)
  have a2 : 2 < i → ¬ x = [109, 105, 110] := fun hi e => h1 2 hi (by rw [e]; rfl)
  unfold redB
  have hc : i = 0 ∨ i = 1 ∨ i = 2 ∨ i = 3 := by omega
  rcases hc with rfl | rfl | rfl | rfl
  · rcases h2 with h | h
    · cases h
    · have e : x = [115, 117, 109] := h.symm
      rw [if_pos e]; rfl
  · rcases h2 with h | h
    · cases h
    · have e : x = [109, 97, 120] := h.symm
      rw [if_neg (a0 (by omega)), if_pos e]; rfl
  · rcases h2 with h | h
    · cases h
    · have e : x = [109, 105, 110] := h.symm
      rw [if_neg (a0 (by omega)), if_neg (a1 (by omega)), if_pos e]; rfl
  · rw [if_neg (a0 (by omega)), if_neg (a1 (by omega)), if_neg (a2 (by omega))]; rfl
theorem ptB_args {s wd : List UInt8} {args : List (List UInt8)} (h : ptB s = some (wd, args)) : args ≠ [] ∧ args.length ≤ s.length + 1 ∧ ∀ p ∈ args, p.length ≤ s.length := by
  unfold ptB at h
  split at h
  · cases h
  · cases h
    refine ⟨spl2_pos _ _ _, ?_, fun p hp => ?_⟩
    · have := spl2_len ((s.take (s.length - 1)).drop (brk s + 1)) false []
      rw [List.length_drop, List.length_take] at this
      omega
    · have := spl2_mem _ _ _ p hp
      rw [List.length_drop, List.length_take, List.length_nil] at this
      omega
/-- How the boxes of Parse lie: its answer's, that of no call, the call's; the row of the items. -/
structure PSt (w : World) (T X Z0 D : Nat) (A : Option Addr) (cap : Nat) (args : List (List UInt8)) (V : Array Value) (wx : World) : Prop where
  xb : Blk wx X 24 #[.int .u8 0, .int .i64 0, .int .i64 0, .int .i64 0, .int .i64 0, .int .i64 0, .int .i64 0, .int .u8 0, .slice none 0 0, .int .i64 0, .int .i64 0]
  zb : Blk wx Z0 24 #[.int .u8 0, .int .i64 0, .int .i64 0, .int .i64 0, .int .i64 0, .int .i64 0, .int .i64 0, .int .u8 0, .slice none 0 0, .int .i64 0, .int .i64 0]
  db : Blk wx D 24 V
  row : wx.ownsRow X 9 1 (.slice A args.length cap) args.length (strC args)
  low : Below X w wx
  xt : X < T
  zt : Z0 < T
  dt : D < T
  rt : ∀ a, A = some a → a.block < T
  ht : T ≤ wx.heap.size
  dx : X < D
  dz : Z0 ≠ D
  rd : ∀ a, A = some a → a.block ≠ D
theorem own_up {w w' : World} {B T size n c m : Nat} {e : TypeId} {A : Option Addr} {xs : List Value} (h : w.ownsRow B e size (.slice A m c) n xs) (hT : ∀ a, A = some a → a.block < T) (hb : Below T w w') : w'.ownsRow B e size (.slice A m c) n xs := by
  refine ⟨h.1, h.2.imp id ?_⟩
  rintro ⟨g, cap, cur, hv, hge, hh, r⟩
  injection hv with hA
  exact ⟨g, cap, cur, by rw [hA]; congr, hge, (hb.block g (hT _ hA)).trans hh, r⟩
theorem PSt.up {w : World} {T X Z0 D : Nat} {A : Option Addr} {cap : Nat} {args : List (List UInt8)} {V : Array Value} {wx w' : World} (h : PSt w T X Z0 D A cap args V wx) (hb : Below T wx w') : PSt w T X Z0 D A cap args V w' :=
  ⟨h.xb.below hb h.xt, h.zb.below hb h.zt, h.db.below hb h.dt, own_up h.row h.rt hb, h.low.trans (hb.mono (Nat.le_of_lt h.xt)), h.xt, h.zt, h.dt, h.rt, Nat.le_trans h.ht hb.size, h.dx, h.dz, h.rd⟩
theorem PSt.on {w : World} {T X Z0 D : Nat} {A : Option Addr} {cap : Nat} {args : List (List UInt8)} {V : Array Value} {wx w' : World} (h : PSt w T X Z0 D A cap args V wx) (hb : Below wx.heap.size wx w') : PSt w T X Z0 D A cap args V w' := h.up (hb.mono h.ht)
theorem PSt.set {w : World} {T X Z0 D : Nat} {A : Option Addr} {cap : Nat} {args : List (List UInt8)} {V : Array Value} {wx : World} (h : PSt w T X Z0 D A cap args V wx) (i : Nat) (v : Value) : PSt w T X Z0 D A cap args (V.setIfInBounds i v) (wx.setCell ⟨D, i, none⟩ v) :=
  ⟨h.xb.far (p := ⟨D, i, none⟩) (Nat.ne_of_lt h.dx) v, h.zb.far (p := ⟨D, i, none⟩) h.dz v, h.db.set_ i v,
    own_setCell (p := ⟨D, i, none⟩) h.row (by
      intro e
      cases hA : A with
      | none => rw [hA] at e; cases e
      | some a => rw [hA] at e; exact h.rd a hA (by simpa [Value.ownBlock] using e)) v,
    h.low.setCell (p := ⟨D, i, none⟩) (Nat.le_of_lt h.dx) v, h.xt, h.zt, h.dt, h.rt, (by show T ≤ _; simpa [World.setCell] using h.ht), h.dx, h.dz, h.rd⟩
theorem PSt.base {w : World} {T X Z0 D : Nat} {A : Option Addr} {cap : Nat} {args : List (List UInt8)} {V : Array Value} {wx : World} (h : PSt w T X Z0 D A cap args V wx) (h0 : 0 < args.length) : ∃ g, A = some ⟨g, 0, none⟩ ∧ args.length ≤ cap := by
  obtain ⟨g, hA, _, _, _, _, hc, _⟩ := own_cell h.row h0
  exact ⟨g, hA, hc⟩
theorem PSt.item {w : World} {T X Z0 D : Nat} {A : Option Addr} {cap : Nat} {args : List (List UInt8)} {V : Array Value} {wx : World} (h : PSt w T X Z0 D A cap args V wx) {g m : Nat} {x : List UInt8} (hA : A = some ⟨g, 0, none⟩) (hx : args[m]? = some x) : wx.cell? ⟨g, m, none⟩ = some (.string (bytes x)) := by
  have hm : m < args.length := (List.getElem?_eq_some_iff.1 hx).1
  obtain ⟨g', hA', _, _, _, _, _, hc⟩ := own_cell h.row (by omega)
  rw [hA] at hA'
  cases hA'
  exact hc m _ (by unfold strC; rw [List.getElem?_map, hx]; rfl)
theorem PSt.grow {w : World} {T X Z0 D : Nat} {A : Option Addr} {cap : Nat} {args : List (List UInt8)} {V : Array Value} {wx w' : World} {row : Option Nat} (h : PSt w T X Z0 D A cap args V wx) (hk : wx.grownBy w' row) (hr : ∀ g, row = some g → T ≤ g) : PSt w T X Z0 D A cap args V w' :=
  h.up ((Below.refl T wx).grown hk h.ht hr)
theorem own_lt {w : World} {B size n c m : Nat} {e : TypeId} {A : Option Addr} {xs : List Value} (h : w.ownsRow B e size (.slice A m c) n xs) : ∀ a, A = some a → B ≤ a.block ∧ a.block < w.heap.size := fun a ha => by
  rcases h.2 with ⟨hv, _⟩ | ⟨g, _, _, hv, hge, hh, _⟩
  · injection hv with hv; rw [hv] at ha; cases ha
  · injection hv with hv; rw [hv] at ha; cases ha; exact ⟨hge, (Array.getElem?_eq_some_iff.1 hh).1⟩
theorem own_i64 {w : World} {B c n j g : Nat} {e : TypeId} {l : List Int} {y : Int} (h : w.ownsRow B e 1 (.slice (some ⟨g, 0, none⟩) n c) n (i64s l)) (hj : j < l.length) (hl : l.length = n) (hy : l.getD j 0 = y) : w.cell? ⟨g, j, none⟩ = some (.int .i64 y) := by
  obtain ⟨g', hA, _, _, _, _, _, hc⟩ := own_cell h (by omega)
  cases hA
  rw [← hy]
  exact hc j _ (i64s_at hj)
/-- How many numbers a kind without requests has. -/
def leastL (u : List Int) : Int := if u = [0, 1, 2, 3, 4] then 5 else if u = [0] then 1 else if u = [0, 3, 6] then 2 else 3
theorem args_least {k : Int} (h : kindC k) (h7 : ¬ usedL k = [7]) : (TreeCallsW.argsOf k).1 = leastL (usedL k) := by
  obtain ⟨h1, h2⟩ := h
  obtain ⟨n, rfl⟩ : ∃ n : Nat, k = n := ⟨k.toNat, by omega⟩
  have hd : ∀ n : Fin 23, 1 ≤ n.1 → ¬ usedL (n.1 : Int) = [7] → (TreeCallsW.argsOf (n.1 : Int)).1 = leastL (usedL (n.1 : Int)) := by decide
  exact hd ⟨n, by omega⟩ (by show 1 ≤ n; omega) h7
/-- A call that is put together of numbers that fit is in order. -/
theorem setB_ok {k op : Int} {l : List Int} {c : Cl} (hk : 0 ≤ k ∧ k ≤ 255) (ho : 0 ≤ op ∧ op ≤ 255) (hl : ∀ z ∈ l, Told.Fit z) (h : setB k op l = some c) : c.ok ∧ c.rq.length ≤ l.length := by
  have f0 : Told.Fit 0 := by unfold Told.Fit; omega
  have fg : ∀ j, Told.Fit (l.getD j 0) := fun j => by
    by_cases hj : j < l.length
    · rw [List.getD_eq_getElem?_getD, List.getElem?_eq_getElem hj]
      exact hl _ (List.getElem_mem hj)
    · rw [List.getD_eq_getElem?_getD, List.getElem?_eq_none (by omega)]
      exact f0
  unfold setB at h
  repeat' split at h
  all_goals
    first
      | (cases h
         exact ⟨⟨hk, ho, f0, f0, f0, f0, f0, f0, f0, f0, hl⟩, Nat.le_refl _⟩)
      | (cases h
         exact ⟨⟨hk, ho, by first | exact fg _ | exact f0, by first | exact fg _ | exact f0, by first | exact fg _ | exact f0, by first | exact fg _ | exact f0, by first | exact fg _ | exact f0, by first | exact fg _ | exact f0, by first | exact fg _ | exact f0, by first | exact fg _ | exact f0, fun z hz => absurd hz List.not_mem_nil⟩, Nat.zero_le _⟩)
      | (cases h)
end Cal
end Go.Proofs.YthcoelkpiflfeaaDoor
