/- The program's Order, as it lies; what puts an event behind the others: add. -/
import Derived.Test.YtflaikhkddjfjaaRows
import Derived.Test.YtflaikhkddjfjaaOrdA
import Derived.Test.YtflaikhkddjfjaaOwn
import Derived.Test.YtflaikhkddjfjaaRelT
import Derived.Test.YtflaikhkddjfjaaRelH
import Derived.Lib.AppendZeros
import Derived.BigRegion
namespace Go.Proofs.Ytflaikhkddjfjaa
open Go Go.RowKit
set_option linter.unusedVariables false
set_option linter.unusedSimpArgs false
namespace Ord
/-- An event, as the program keeps it. -/
structure Eo where
  r : Nat
  A : Option Addr
  acap : Nat
  ah : List Nat
  C : Option Addr
  ccap : Nat
  ck : List Int
  d : Nat
instance : Inhabited Eo := ⟨⟨0, none, 0, [], none, 0, [], 0⟩⟩
def natI (l : List Nat) : List Int := l.map fun (x : Nat) => (x : Int)
theorem natI_len (l : List Nat) : (natI l).length = l.length := by simp [natI]
def eoC (x : Eo) : List Value := [.int .i64 x.r, .slice x.A x.ah.length x.acap, .slice x.C x.ck.length x.ccap, .int .i64 x.d]
def eoCs (l : List Eo) : List Value := l.flatMap eoC
theorem eoCs_app (a b : List Eo) : eoCs (a ++ b) = eoCs a ++ eoCs b := by simp [eoCs]
theorem eoC_len (x : Eo) : (eoC x).length = 4 := rfl
theorem eoCs_at : ∀ (l : List Eo) (i : Nat) (hi : i < l.length) (j : Nat), j < 4 → (eoCs l)[i * 4 + j]? = (eoC l[i])[j]?
  | t :: l, 0, _, j, hj => by
    rw [show eoCs (t :: l) = eoC t ++ eoCs l from rfl, List.getElem?_append_left (by rw [eoC_len]; omega)]
    simp
  | t :: l, i + 1, hi, j, hj => by
    have e : (i + 1) * 4 + j = (eoC t).length + (i * 4 + j) := by rw [eoC_len]; omega
    rw [show eoCs (t :: l) = eoC t ++ eoCs l from rfl, e, List.getElem?_append_right (by omega), Nat.add_sub_cancel_left]
    exact eoCs_at l i (by simpa using hi) j hj
theorem ev_info : (Try.prog.info? 64).map (fun i => (i.zero, i.size, i.bytes)) = some (some (.agg #[.int .i64 0, .slice none 0 0, .slice none 0 0, .int .i64 0]), 4, 64) := by kernel_rfl
structure OrA (w : World) (o B Rb : Nat) (es : List Eo) : Prop where
  tab : ∃ v, Blk w o 67 #[v] ∧ w.ownsRow B 64 4 v es.length (eoCs es)
  rows : ∀ i (h : i < es.length), w.ownsRow Rb 3 1 (.slice es[i].A es[i].ah.length es[i].acap) es[i].ah.length (ints (natI es[i].ah)) ∧ w.ownsRow Rb 3 1 (.slice es[i].C es[i].ck.length es[i].ccap) es[i].ck.length (ints es[i].ck)
theorem OrA.lt {w : World} {o B Rb : Nat} {es : List Eo} (h : OrA w o B Rb es) : o < w.heap.size := by
  obtain ⟨v, b, _⟩ := h.tab
  exact b.lt
theorem OrA.below {w w' : World} {o B Rb : Nat} {es : List Eo} (h : OrA w o B Rb es) (hb : Below w.heap.size w w') : OrA w' o B Rb es := by
  obtain ⟨v, b, o1⟩ := h.tab
  exact ⟨⟨v, b.below hb b.lt, own_belowR o1 hb⟩, fun i hi => ⟨own_belowR (h.rows i hi).1 hb, own_belowR (h.rows i hi).2 hb⟩⟩
theorem OrA.more {w : World} {o B C Rb Rc : Nat} {es : List Eo} (h : OrA w o B Rb es) (hC : C ≤ B) (hR : Rc ≤ Rb) : OrA w o C Rc es := by
  obtain ⟨v, b, o1⟩ := h.tab
  exact ⟨⟨v, b, own_more o1 hC⟩, fun i hi => ⟨own_more (h.rows i hi).1 hR, own_more (h.rows i hi).2 hR⟩⟩
/-- A write to a block of numbers that is older than the rows. -/
theorem OrA.far {w : World} {o B Rb g k : Nat} {u : Value} {cs : Array Value} {es : List Eo} (h : OrA w o B Rb es) (hb : Blk w g 3 cs) (hg : g < Rb) : OrA (w.setCell ⟨g, k, none⟩ u) o B Rb es := by
  obtain ⟨v, b, o1⟩ := h.tab
  have kk := keeps_set (p := ⟨g, k, none⟩) hb u
  have far : ∀ {v : Value} {n : Nat} {xs : List Value}, w.ownsRow Rb 3 1 v n xs → (w.setCell ⟨g, k, none⟩ u).ownsRow Rb 3 1 v n xs := fun {v n xs} ho => own_setCell ho (p := ⟨g, k, none⟩) (fun e => by have h9 : Rb ≤ g := (own_block ho e).1; omega) u
  exact ⟨⟨v, KeepsBut.blk kk b (by decide), KeepsBut.own kk o1 (by decide)⟩, fun i hi => ⟨far (h.rows i hi).1, far (h.rows i hi).2⟩⟩
theorem OrA.open_ {w : World} {o B Rb : Nat} {es : List Eo} (h : OrA w o B Rb es) : ∃ V c, Blk w o 67 #[.slice V es.length c] ∧ w.ownsRow B 64 4 (.slice V es.length c) es.length (eoCs es) ∧
    ∀ i (hi : i < es.length), ∃ g, V = some ⟨g, 0, none⟩ ∧ w.cell? ⟨g, i * 4, none⟩ = some (.int .i64 es[i].r) ∧ w.cell? ⟨g, i * 4 + 1, none⟩ = some (.slice es[i].A es[i].ah.length es[i].acap) ∧ w.cell? ⟨g, i * 4 + 2, none⟩ = some (.slice es[i].C es[i].ck.length es[i].ccap) ∧ w.cell? ⟨g, i * 4 + 3, none⟩ = some (.int .i64 es[i].d) := by
  obtain ⟨v, b, o1⟩ := h.tab
  obtain ⟨V, c, rfl⟩ := own_form o1
  refine ⟨V, c, b, o1, fun i hi => ?_⟩
  obtain ⟨g, e1, _, _, _, _, _, hc⟩ := own_cell o1 (by omega)
  have hp : ∀ j u, j < 4 → (eoC es[i])[j]? = some u → w.cell? ⟨g, i * 4 + j, none⟩ = some u := fun j u hj hu => hc _ _ (by rw [eoCs_at es i hi j hj]; exact hu)
  exact ⟨g, e1, hp 0 _ (by omega) rfl, hp 1 _ (by omega) rfl, hp 2 _ (by omega) rfl, hp 3 _ (by omega) rfl⟩
def foldM (es : List Eo) : List Int → List Nat → List Int
  | c, [] => c
  | c, k :: ks => foldM es (mergeL c (es.getD k default).ck) ks
def foldD (es : List Eo) : Nat → List Nat → Nat
  | d, [] => d
  | d, k :: ks => foldD es (max d (1 + (es.getD k default).d)) ks
theorem foldM_snoc (es : List Eo) : ∀ (l : List Nat) (c : List Int) (k : Nat), foldM es c (l ++ [k]) = mergeL (foldM es c l) (es.getD k default).ck
  | [], c, k => rfl
  | x :: l, c, k => by rw [List.cons_append, foldM, foldM, foldM_snoc es l]
theorem foldD_snoc (es : List Eo) : ∀ (l : List Nat) (d k : Nat), foldD es d (l ++ [k]) = max (foldD es d l) (1 + (es.getD k default).d)
  | [], d, k => rfl
  | x :: l, d, k => by rw [List.cons_append, foldD, foldD, foldD_snoc es l]
/-- Events that are well. -/
structure Fit (n : Nat) (es : List Eo) : Prop where
  n1 : 1 ≤ n
  n64 : n ≤ 64
  ck : ∀ x ∈ es, x.ck.length = n ∧ ∀ q, 0 ≤ x.ck.getD q 0 ∧ x.ck.getD q 0 ≤ es.length
  d : ∀ x ∈ es, x.d ≤ es.length
  le : es.length ≤ 120
theorem merge_at {l m : List Int} (h : may2B l m = true) (j : Nat) (hj : j < l.length) : (mergeL l m).getD j 0 = max (l.getD j 0) (m.getD j 0) := by
  have : mergeL l m = mx (upto (pr l m) l.length) := by simp [mergeL, h]
  rw [this]
  simp [mx, upto, pr, List.getD_eq_getElem?_getD, hj]
theorem merge_len {l m : List Int} (h : may2B l m = true) : (mergeL l m).length = l.length := by
  have : mergeL l m = mx (upto (pr l m) l.length) := by simp [mergeL, h]
  rw [this, mx_length, upto_length]
/-- A clock of n ranks, none of whose numbers is more than b. -/
def Ck (n b : Nat) (c : List Int) : Prop := c.length = n ∧ ∀ q, 0 ≤ c.getD q 0 ∧ c.getD q 0 ≤ b
theorem Ck.may {n b : Nat} {c : List Int} (h : Ck n b c) (h1 : 1 ≤ n) (h2 : n ≤ 64) (hb : b ≤ 2000) : mayB c = true := by
  refine mayB_mk (by rw [h.1]; exact h1) (by rw [h.1]; exact h2) fun j _ => ?_
  have := h.2 j
  unfold okB
  rw [decide_eq_true_eq]
  omega
theorem Ck.may2 {n b : Nat} {c e : List Int} (h : Ck n b c) (h' : Ck n b e) (h1 : 1 ≤ n) (h2 : n ≤ 64) (hb : b ≤ 2000) : may2B c e = true := by
  simp [may2B, h.may h1 h2 hb, h'.may h1 h2 hb, h.1, h'.1]
theorem Ck.merge {n b : Nat} {c e : List Int} (h : Ck n b c) (h' : Ck n b e) (h1 : 1 ≤ n) (h2 : n ≤ 64) (hb : b ≤ 2000) : Ck n b (mergeL c e) ∧ ∀ q, (mergeL c e).getD q 0 = max (c.getD q 0) (e.getD q 0) := by
  have hm := h.may2 h' h1 h2 hb
  have at_ : ∀ q, (mergeL c e).getD q 0 = max (c.getD q 0) (e.getD q 0) := fun q => by
    by_cases hq : q < c.length
    · exact merge_at hm q hq
    · have e1 : (mergeL c e).getD q 0 = 0 := by rw [List.getD_eq_getElem?_getD, List.getElem?_eq_none (by rw [merge_len hm]; omega)]; rfl
      have e2 : c.getD q 0 = 0 := by rw [List.getD_eq_getElem?_getD, List.getElem?_eq_none (by omega)]; rfl
      have e3 : e.getD q 0 = 0 := by rw [List.getD_eq_getElem?_getD, List.getElem?_eq_none (by have := h.1; have := h'.1; omega)]; rfl
      rw [e1, e2, e3]
      rfl
  refine ⟨⟨by rw [merge_len hm]; exact h.1, fun q => ?_⟩, at_⟩
  rw [at_]
  have := h.2 q
  have := h'.2 q
  omega
theorem Fit.at_ {n : Nat} {es : List Eo} (h : Fit n es) {k : Nat} (hk : k < es.length) : Ck n es.length (es.getD k default).ck ∧ (es.getD k default).d ≤ es.length := by
  have hm : es.getD k default ∈ es := by
    rw [List.getD_eq_getElem?_getD, List.getElem?_eq_getElem hk]
    exact List.getElem_mem hk
  exact ⟨h.ck _ hm, h.d _ hm⟩
theorem zeros_ck (n b : Nat) : Ck n b (List.replicate n 0) := by
  refine ⟨by simp, fun q => ?_⟩
  have e : (List.replicate n (0 : Int)).getD q 0 = 0 := by
    rw [List.getD_eq_getElem?_getD, List.getElem?_replicate]
    split <;> rfl
  rw [e]
  omega
theorem foldM_ck {n : Nat} {es : List Eo} (h : Fit n es) : ∀ (l : List Nat) (c : List Int), (∀ k ∈ l, k < es.length) → Ck n es.length c → Ck n es.length (foldM es c l)
  | [], c, _, hc => hc
  | k :: l, c, hl, hc => foldM_ck h l _ (fun x hx => hl x (List.mem_cons_of_mem _ hx)) (hc.merge (h.at_ (hl k List.mem_cons_self)).1 h.n1 h.n64 (by have := h.le; omega)).1
theorem foldD_le {n : Nat} {es : List Eo} (h : Fit n es) : ∀ (l : List Nat) (d : Nat), (∀ k ∈ l, k < es.length) → d ≤ es.length + 1 → foldD es d l ≤ es.length + 1
  | [], d, _, hd => hd
  | k :: l, d, hl, hd => foldD_le h l _ (fun x hx => hl x (List.mem_cons_of_mem _ hx)) (by have := (h.at_ (hl k List.mem_cons_self)).2; omega)
theorem ticks {l : List Int} (k : Nat) (ha : mayB l = true) (hk : k < l.length) (hs : l.getD k 0 < 1099511627776) :
    tickE l k = 0 ∧ tickL l k = l.set k (l.getD k 0 + 1) := by
  have hok : tickOk l k = true := tickOk_yes ha ⟨by omega, by omega, by rw [Int.toNat_natCast]; exact hs⟩
  obtain ⟨hL, hE⟩ := tick_yes hok
  rw [Int.toNat_natCast] at hL
  exact ⟨hE, hL⟩
theorem newL_yes {n : Nat} (h1 : 1 ≤ n) (h2 : n ≤ 64) : newL n = List.replicate n 0 ∧ newE n = 0 := by
  have : newOk (n : Int) = true := decide_eq_true (by omega)
  unfold newL newE
  rw [this]
  simp
set_option maxRecDepth 100000 in
set_option maxHeartbeats 8000000 in
theorem add_c (o B Rb n q : Nat) (es : List Eo) (A : Option Addr) (acap : Nat) (l : List Nat) (w : World) (ho : OrA w o B Rb es) (hBo : B ≤ o) (hRb : Rb ≤ w.heap.size) (hf : Fit n es) (hq : q < n) (hl : ∀ k ∈ l, k < es.length) (hll : l.length ≤ 1000) (hr : w.ownsRow Rb 3 1 (.slice A l.length acap) l.length (ints (natI l))) :
    Calls Try.prog 37 #[.pointer (some ⟨o, 0, none⟩), .int .i64 n, .int .i64 q, .slice A l.length acap, .agg #[.func (.func 38) #[] #[], .func (.func 39) #[] #[]]] w fun e w' => e = .returned (.int .i64 0) ∧ (∃ C ccap, OrA w' o B Rb (es ++ [(⟨q, A, acap, l, C, ccap, tickL (foldM es (List.replicate n 0) l) q, foldD es 1 l⟩ : Eo)])) ∧ Below B w w' ∧ KeepsBut [64, 67] w w' := by
  have HP := hide (info_parts ev_info)
  have h1 := hf.n1
  have h2 := hf.n64
  have hle := hf.le
  have NL := newL_yes h1 h2
  have NW := hide (fun (w' : World) => new_a n w')
  rw [NL.1, NL.2] at NW
  have ZC := hide (zeros_ck n es.length)
  have HFM := hide (fun j => foldM_ck hf (l.take j) (List.replicate n 0) (fun k hk => hl k (List.mem_of_mem_take hk)) ZC.out)
  have HFD := hide (fun j => foldD_le hf (l.take j) 1 (fun k hk => hl k (List.mem_of_mem_take hk)) (by omega))
  have HO := hide ho
  have HFI := hide hf
  have HL := hide hl
  have HR := hide hr
  have HBO := hide hBo
  have HRB := hide hRb
  have HNS := hide (And.intro h1 h2)
  have HQ := hide hq
  -- the two boxes
  have hbk := (Below.refl w.heap.size w).alloc (Nat.le_refl _) (.cells #[.func (.func 38) #[] #[], .func (.func 39) #[] #[]] 82)
  have kk := Blk.new w 82 #[.func (.func 38) #[] #[], .func (.func 39) #[] #[]]
  have hs1 : (w.alloc (.cells #[.func (.func 38) #[] #[], .func (.func 39) #[] #[]] 82)).heap.size = w.heap.size + 1 := by simp
  obtain ⟨wk, hwk⟩ : ∃ x, w.alloc (.cells #[.func (.func 38) #[] #[], .func (.func 39) #[] #[]] 82) = x := ⟨_, rfl⟩
  rw [hwk] at hbk kk hs1
  obtain ⟨bx, hbx⟩ := box4 wk 64 (.int .i64 0) (.slice none 0 0) (.slice none 0 0) (.int .i64 0) (.int .i64 q) (.slice A l.length acap) (.slice none 0 0) (.int .i64 1)
  have bz := Blk.new wk 64 #[.int .i64 0, .slice none 0 0, .slice none 0 0, .int .i64 0]
  obtain ⟨wa, hwa⟩ : ∃ x, wk.alloc (.cells #[.int .i64 0, .slice none 0 0, .slice none 0 0, .int .i64 0] 64) = x := ⟨_, rfl⟩
  rw [hwa] at bx hbx bz
  rw [hs1] at bx bz hbx
  have z0 : wa.cell? ⟨w.heap.size + 1, 0, none⟩ = some (.int .i64 0) := bz.cell 0
  have z1 : wa.cell? ⟨w.heap.size + 1, 1, none⟩ = some (.slice none 0 0) := bz.cell 1
  have z2 : wa.cell? ⟨w.heap.size + 1, 2, none⟩ = some (.slice none 0 0) := bz.cell 2
  have z3 : wa.cell? ⟨w.heap.size + 1, 3, none⟩ = some (.int .i64 0) := bz.cell 3
  have f0 := bz.frozen 0
  have f1 := bz.frozen 1
  have f2 := bz.frozen 2
  have f3 := bz.frozen 3
  obtain ⟨wb, hwb⟩ : ∃ x, (((wa.setCell ⟨w.heap.size + 1, 0, none⟩ (.int .i64 q)).setCell ⟨w.heap.size + 1, 1, none⟩ (.slice A l.length acap)).setCell ⟨w.heap.size + 1, 2, none⟩ (.slice none 0 0)).setCell ⟨w.heap.size + 1, 3, none⟩ (.int .i64 1) = x := ⟨_, rfl⟩
  rw [hwb] at bx hbx
  have kb := kk.below hbx (by omega)
  have hbb := hbk.trans (hbx.mono (by omega))
  have BXb := hide bx
  have KB := hide kb
  have HBb := hide hbb
  have HS1 := hide hs1
  clear ho hf hl hr hBo hRb h1 h2 NL hbk kk hbx bx bz kb hbb hq
  go_enter Try.func37, Try.ntmps37
  go_wp2_with fail
  refine (NW.out _).mono ?_
  rintro e w3 ⟨cA, cc, rfl, hco, hb3⟩
  have BX3 := hide (BXb.out.below hb3 BXb.out.lt)
  have K3 := hide (KB.out.below hb3 KB.out.lt)
  have HB3 := hide (HBb.out.trans (hb3.mono HBb.out.size))
  have HC3 := hide (own_more hco HBb.out.size)
  clear hco hb3 z0 z1 z2 z3 f0 f1 f2 f3 hwa hwb hwk NW
  go_wp2_with fail
  go_loopw [12, 13, 26] (fun vc ve vi wr => ∃ (j d : Nat) (c : List Int) (cA : Option Addr) (cc : Nat), j ≤ l.length ∧ vi = .int .i64 j ∧ ve = .int .i64 0 ∧ vc = .slice cA c.length cc ∧ Hid (c = foldM es (List.replicate n 0) (l.take j)) ∧ Hid (d = foldD es 1 (l.take j)) ∧ Hid (Owned wr w.heap.size cA cc c) ∧ Hid (Blk wr (w.heap.size + 1) 64 #[.int .i64 q, .slice A l.length acap, .slice none 0 0, .int .i64 d]) ∧ Hid (Blk wr w.heap.size 82 #[.func (.func 38) #[] #[], .func (.func 39) #[] #[]]) ∧ Hid (Below w.heap.size w wr)) (fun _ _ vi _ => l.length - (intOf vi).toNat)
  case atStart => exact ⟨0, 1, List.replicate n 0, cA, cc, by omega, rfl, rfl, by rw [List.length_replicate], hide rfl, hide rfl, HC3, BX3, K3, HB3⟩
  case round =>
    clear BX3 K3 HB3 HC3
    obtain ⟨j, d, c, cA, cc, hj, rfl, rfl, rfl, HCE, HDE, HC, BX, K, HB⟩ := hrel
    have hck : Ck n es.length c := by rw [HCE.out]; exact HFM.out j
    have hdl : d ≤ es.length + 1 := by rw [HDE.out]; exact HFD.out j
    have HCK := hide hck
    have k0 : wr.cell? ⟨w.heap.size, 0, none⟩ = some (.func (.func 38) #[] #[]) := K.out.cell 0
    have k1 : wr.cell? ⟨w.heap.size, 1, none⟩ = some (.func (.func 39) #[] #[]) := K.out.cell 1
    by_cases hlt : j < l.length
    rotate_left
    · obtain rfl : j = l.length := by omega
      have hltI : ¬ (l.length : Int) < (l.length : Int) := by omega
      have hcf : c = foldM es (List.replicate n 0) l := by have := HCE.out; rw [List.take_length] at this; exact this
      have hdf : d = foldD es 1 l := by have := HDE.out; rw [List.take_length] at this; exact this
      have hqn := HQ.out
      have hmy := hck.may HNS.out.1 HNS.out.2 (by omega)
      have TK := ticks q hmy (by rw [hck.1]; exact hqn) (by have := (hck.2 q).2; omega)
      have TA := hide (tick_a cA c cc q wr (Reads.of_own HC.out) (by rw [hck.1]; unfold maxLen; have := HNS.out.2; omega))
      rw [TK.1] at TA
      have HCF := hide (And.intro hcf hdf)
      have b2 : wr.cell? ⟨w.heap.size + 1, 2, none⟩ = some (.slice none 0 0) := BX.out.cell 2
      clear hcf hdf hmy TK hck hqn
      go_wp2_with fail
      refine TA.out.mono ?_
      rintro e w4 ⟨C4, cc4, rfl, hc4, hb4⟩
      have BX4 := BX.out.below hb4 BX.out.lt
      have q2 : w4.cell? ⟨w.heap.size + 1, 2, none⟩ = some (.slice none 0 0) := BX4.cell 2
      have fz2 := BX4.frozen 2
      have hne := own_blk_ne hc4 BX4 (by decide)
      have BX5 := BX4.set_ 2 (.slice C4 (tickL c q).length cc4)
      have hc5 := own_setCell hc4 (p := ⟨w.heap.size + 1, 2, none⟩) hne (.slice C4 (tickL c q).length cc4)
      have hb5 := (HB.out.trans (hb4.mono HB.out.size)).setCell (p := ⟨w.heap.size + 1, 2, none⟩) (by show w.heap.size ≤ w.heap.size + 1; omega) (.slice C4 (tickL c q).length cc4)
      have hbx5 : Blk (w4.setCell ⟨w.heap.size + 1, 2, none⟩ (.slice C4 (tickL c q).length cc4)) (w.heap.size + 1) 64 #[.int .i64 q, .slice A l.length acap, .slice C4 (tickL c q).length cc4, .int .i64 d] := by simpa using BX5
      obtain ⟨w5, hw5⟩ : ∃ x, w4.setCell ⟨w.heap.size + 1, 2, none⟩ (.slice C4 (tickL c q).length cc4) = x := ⟨_, rfl⟩
      rw [hw5] at hc5 hb5 hbx5
      have HBX5 := hide hbx5
      have HC5 := hide hc5
      have HB5 := hide hb5
      have hot := HO.out.below hb5
      obtain ⟨V, vc, hbo, hown, _⟩ := hot.open_
      have HROW := hide hot.rows
      have o0 : w5.cell? ⟨o, 0, none⟩ = some (.slice V es.length vc) := hbo.cell 0
      have of0 := hbo.frozen 0
      have HBO5 := hide hbo
      have HOWN := hide hown
      clear BX4 hne BX5 hc5 hb5 hbx5 hc4 hb4 b2 k0 k1 hot hbo hown
      go_wp2_with fail
      clear q2 fz2 hw5
      obtain ⟨row, hrow⟩ : ∃ x, (Value.slice V es.length vc).ownBlock = x := ⟨_, rfl⟩
      have hlow : ∀ k, row = some k → B ≤ k := fun k e => (own_block HOWN.out (hrow.trans e)).1
      have hneE : row ≠ some (w.heap.size + 1) := fun e => by
        have h1 := (own_block (show w.ownsRow B 64 4 (.slice V es.length vc) es.length (eoCs es) from by
          obtain ⟨v, b, o1⟩ := HO.out.tab
          have h2 : w5.cell? ⟨o, 0, none⟩ = some v := (b.below HB5.out b.lt).cell 0
          rw [o0] at h2
          rw [Option.some.inj h2]
          exact o1) (hrow.trans e)).2.1
        omega
      have hneO : row ≠ some o := fun e => own_blk_ne HOWN.out HBO5.out (by decide) (hrow.trans e)
      let K : World → World → Prop := fun a b => a.grownBy b row
      let R : Nat → Value → World → Prop := fun sl u w1 => match sl with
        | 73 | 74 | 75 | 76 => u = .pointer (some ⟨o, 0, none⟩)
        | 77 => u = .slice V es.length vc
        | 78 => u = .agg #[.int .i64 q, .slice A l.length acap, .slice C4 (tickL c q).length cc4, .int .i64 d]
        | 79 => ∃ b, u = .slice (some ⟨b, 0, none⟩) 1 1 ∧ w5.heap.size ≤ b ∧ Blk w1 b 64 #[.int .i64 q, .slice A l.length acap, .slice C4 (tickL c q).length cc4, .int .i64 d]
        | _ => True
      let J : Option Value → World → Prop := fun b w1 => match b with
        | none => w1.ownsRow B 64 4 (.slice V es.length vc) es.length (eoCs es)
        | some u => w1.ownsRow B 64 4 u (es.length + 1) (eoCs es ++ [.int .i64 q, .slice A l.length acap, .slice C4 (tickL c q).length cc4, .int .i64 d])
      have hKB : ∀ x y, Below x.heap.size x y → K x y := fun _ _ hb => grown_of_below hb
      have hJB : ∀ b x y, J b x → Below x.heap.size x y → J b y := fun b x y hj hb => by
        cases b with
        | none => exact own_belowR hj hb
        | some u => exact own_belowR hj hb
      refine wp_region_relJ 8 80 R K J (by kernel_rfl) (by kernel_rfl) (by kernel_rfl) (by kernel_rfl) (by kernel_rfl) (fun _ _ _ h1 h2 => gtrans h1 h2) (hKB _ _ (Below.refl _ _).drew) HOWN.out.drew ?mono13 ?step13 ?fin13
      case mono13 =>
        intro sl u wx wy h hk
        match sl with
        | 79 =>
          obtain ⟨b, h1, h2, h3⟩ := h
          refine ⟨b, h1, h2, h3.grown hk fun e => ?_⟩
          obtain ⟨_, h4, _⟩ := own_block HOWN.out (hrow.trans e.symm)
          omega
        | 0 | 1 | 2 | 3 | 4 | 5 | 6 | 7 | 8 | 9 | 10 | 11 | 12 | 13 | 14 | 15 | 16 | 17 | 18 | 19 | 20 | 21 | 22 | 23 | 24 | 25 | 26 | 27 | 28 | 29 | 30 | 31 | 32 | 33 | 34 | 35 | 36 | 37 | 38 | 39 | 40 | 41 | 42 | 43 | 44 | 45 | 46 | 47 | 48 | 49 | 50 | 51 | 52 | 53 | 54 | 55 | 56 | 57 | 58 | 59 | 60 | 61 | 62 | 63 | 64 | 65 | 66 | 67 | 68 | 69 | 70 | 71 | 72 | 73 | 74 | 75 | 76 | 77 | 78 | 80 | _ + 81 => exact h
      case fin13 =>
        intro ff w9 hk hj hr
        have hown : w9.ownsRow B 64 4 (ff 80) (es.length + 1) (eoCs es ++ [.int .i64 q, .slice A l.length acap, .slice C4 (tickL c q).length cc4, .int .i64 d]) := hj
        have e73 : ff 73 = .pointer (some ⟨o, 0, none⟩) := hr 73 (by decide)
        obtain ⟨a9, c9, e80⟩ := own_form hown
        rw [e80] at hown
        have b9 := HBO5.out.grown hk (Ne.symm hneO)
        have y0 : w9.cell? ⟨o, 0, none⟩ = some (.slice V es.length vc) := b9.cell 0
        have yf := b9.frozen 0
        have kk : KeepsBut [64] w5 w9 := grown_keeps HOWN.out (by rw [hrow]; exact hk)
        have kk2 := keeps_set (p := ⟨o, 0, none⟩) b9 (.slice a9 (es.length + 1) c9)
        have hB5 : B ≤ w5.heap.size := by have := HO.out.lt; have := HB5.out.size; have := HBO.out; omega
        have hBw : B ≤ w.heap.size := by have := HO.out.lt; have := HBO.out; omega
        have FIN : OrA (w9.setCell ⟨o, 0, none⟩ (.slice a9 (es.length + 1) c9)) o B Rb (es ++ [(⟨q, A, acap, l, C4, cc4, tickL (foldM es (List.replicate n 0) l) q, foldD es 1 l⟩ : Eo)]) := by
          obtain ⟨hcf, hdf⟩ := HCF.out
          rw [← hcf, ← hdf]
          refine ⟨⟨.slice a9 (es.length + 1) c9, by simpa using b9.set_ 0 (.slice a9 (es.length + 1) c9), ?_⟩, fun i hi => ?_⟩
          · rw [List.length_append, eoCs_app]
            exact own_setCell hown (p := ⟨o, 0, none⟩) (own_blk_ne hown b9 (by decide)) _
          · by_cases hi2 : i < es.length
            · rw [List.getElem_append_left hi2]
              exact ⟨KeepsBut.own kk2 (KeepsBut.own kk (HROW.out i hi2).1 (by decide)) (by decide), KeepsBut.own kk2 (KeepsBut.own kk (HROW.out i hi2).2 (by decide)) (by decide)⟩
            · have e : i = es.length := by rw [List.length_append, List.length_singleton] at hi; omega
              subst e
              rw [List.getElem_append_right (Nat.le_refl _)]
              simp only [Nat.sub_self, List.getElem_cons_zero]
              exact ⟨KeepsBut.own kk2 (KeepsBut.own kk (own_belowR HR.out HB5.out) (by decide)) (by decide), KeepsBut.own kk2 (KeepsBut.own kk (own_more HC5.out (Nat.le_trans HRB.out HB.out.size)) (by decide)) (by decide)⟩
        have HFIN := hide FIN
        have HKF := hide (((KeepsBut.of_below (tys := [64, 67]) HB5.out).trans (kk.wide (by decide))).trans (kk2.wide (by decide)))
        have HBF := hide (((HB5.out.mono hBw).grown hk hB5 hlow).setCell (p := ⟨o, 0, none⟩) HBO.out (.slice a9 (es.length + 1) c9))
        clear hr hj hown hk kk kk2 b9 FIN hKB hJB o0 of0
        simp only [putAll, slotsOf, List.take, List.drop, List.filterMap_cons, List.filterMap_nil, List.foldl_cons, List.foldl_nil, Act.put, e73, e80]
        simp only [List.setIfInBounds_toArray, List.set_cons_succ, List.set_cons_zero]
        go_wp2_with fail
        go_ret
        exact ⟨rfl, ⟨C4, cc4, HFIN.out⟩, HBF.out, HKF.out⟩
      case step13 =>
        intro op hop
        simp only [List.take, List.mem_cons, List.not_mem_nil, or_false] at hop
        rcases hop with rfl | rfl | rfl | rfl | rfl | rfl | rfl | rfl
        · refine ⟨fun h => absurd h (by decide), fun _ b => stepJ_of hKB hJB fun a w1 hk hj hsm hr => ?_⟩
          have e0 : a.tmps.getD 0 undef = .pointer (some ⟨o, 0, none⟩) := hsm 0 (by decide)
          rw [Array.getD_eq_getD_getElem?] at e0
          unfold Oper.wp
          simp only [execOp, Act.eval, Array.getD_eq_getD_getElem?, e0]
          go_simp
          exact ⟨_, rfl, rfl, Below.refl _ _⟩
        · refine ⟨fun h => absurd h (by decide), fun _ b => stepJ_of hKB hJB fun a w1 hk hj hsm hr => ?_⟩
          have e0 : a.tmps.getD 0 undef = .pointer (some ⟨o, 0, none⟩) := hsm 0 (by decide)
          rw [Array.getD_eq_getD_getElem?] at e0
          unfold Oper.wp
          simp only [execOp, Act.eval, Array.getD_eq_getD_getElem?, e0]
          go_simp
          exact ⟨_, rfl, rfl, Below.refl _ _⟩
        · refine ⟨fun h => absurd h (by decide), fun _ b => stepJ_of hKB hJB fun a w1 hk hj hsm hr => ?_⟩
          have e74 : a.tmps.getD 74 undef = .pointer (some ⟨o, 0, none⟩) := hr 74 (by decide) (by apply Array.mem_toList_iff.1; repeat (first | exact List.Mem.head _ | apply List.Mem.tail))
          rw [Array.getD_eq_getD_getElem?] at e74
          unfold Oper.wp
          simp only [execOp, Act.eval, Array.getD_eq_getD_getElem?, e74]
          go_simp
          exact ⟨_, rfl, rfl, Below.refl _ _⟩
        · refine ⟨fun h => absurd h (by decide), fun _ b => stepJ_of hKB hJB fun a w1 hk hj hsm hr => ?_⟩
          have e75 : a.tmps.getD 75 undef = .pointer (some ⟨o, 0, none⟩) := hr 75 (by decide) (by apply Array.mem_toList_iff.1; repeat (first | exact List.Mem.head _ | apply List.Mem.tail))
          rw [Array.getD_eq_getD_getElem?] at e75
          unfold Oper.wp
          simp only [execOp, Act.eval, Array.getD_eq_getD_getElem?, e75]
          go_simp
          exact ⟨_, rfl, rfl, Below.refl _ _⟩
        · refine ⟨fun h => absurd h (by decide), fun _ b => stepJ_of hKB hJB fun a w1 hk hj hsm hr => ?_⟩
          have e76 : a.tmps.getD 76 undef = .pointer (some ⟨o, 0, none⟩) := hr 76 (by decide) (by apply Array.mem_toList_iff.1; repeat (first | exact List.Mem.head _ | apply List.Mem.tail))
          have b9 := HBO5.out.grown hk (Ne.symm hneO)
          have cc0 : w1.cell? ⟨o, 0, none⟩ = some (.slice V es.length vc) := b9.cell 0
          rw [Array.getD_eq_getD_getElem?] at e76
          unfold Oper.wp
          simp only [execOp, Act.eval, Array.getD_eq_getD_getElem?, e76]
          go_simp
          exact ⟨_, rfl, rfl, Below.refl _ _⟩
        · refine ⟨fun h => absurd h (by decide), fun _ b => stepJ_of hKB hJB fun a w1 hk hj hsm hr => ?_⟩
          have e11 : a.tmps.getD 11 undef = .pointer (some ⟨w.heap.size + 1, 0, none⟩) := hsm 11 (by decide)
          have b9 := HBX5.out.grown hk (Ne.symm hneE)
          have cc0 := b9.cell 0
          have cc1 := b9.cell 1
          have cc2 := b9.cell 2
          have cc3 := b9.cell 3
          rw [Array.getD_eq_getD_getElem?] at e11
          unfold Oper.wp
          simp only [execOp, Act.eval, Array.getD_eq_getD_getElem?, e11]
          go_simp
          exact ⟨_, rfl, rfl, Below.refl _ _⟩
        · refine ⟨fun h => absurd h (by decide), fun _ b => stepJ_of hKB hJB fun a w1 hk hj hsm hr => ?_⟩
          have e78 : a.tmps.getD 78 undef = .agg #[.int .i64 q, .slice A l.length acap, .slice C4 (tickL c q).length cc4, .int .i64 d] := hr 78 (by decide) (by apply Array.mem_toList_iff.1; repeat (first | exact List.Mem.head _ | apply List.Mem.tail))
          have hsz := hk.size
          rw [Array.getD_eq_getD_getElem?] at e78
          unfold Oper.wp
          simp only [execOp, Act.eval, Array.getD_eq_getD_getElem?, e78]
          go_simp
          exact ⟨_, rfl, ⟨w1.heap.size, rfl, hsz, Blk.new w1 64 _⟩, (Below.refl _ _).alloc (Nat.le_refl _) _⟩
        · refine ⟨fun _ a w1 hk hj hsm hr => ?_, fun h => absurd rfl h⟩
          have e77 : a.tmps.getD 77 undef = .slice V es.length vc := hr 77 (by decide) (by apply Array.mem_toList_iff.1; repeat (first | exact List.Mem.head _ | apply List.Mem.tail))
          have e79 : ∃ b, a.tmps.getD 79 undef = .slice (some ⟨b, 0, none⟩) 1 1 ∧ w5.heap.size ≤ b ∧ Blk w1 b 64 #[.int .i64 q, .slice A l.length acap, .slice C4 (tickL c q).length cc4, .int .i64 d] := hr 79 (by decide) (by apply Array.mem_toList_iff.1; repeat (first | exact List.Mem.head _ | apply List.Mem.tail))
          obtain ⟨b, e79', hb, hbb⟩ := e79
          have hj : w1.ownsRow B 64 4 (.slice V es.length vc) es.length (eoCs es) := hj
          have hrd : Reads w1 w1.heap.size 4 (some ⟨b, 0, none⟩) 1 [.int .i64 q, .slice A l.length acap, .slice C4 (tickL c q).length cc4, .int .i64 d] := ⟨rfl, fun _ => ⟨_, rfl, hbb.lt, fun j u hu => by rw [add_lit, hbb.cell]; simpa using hu⟩⟩
          obtain ⟨i0, hi0, hz0, hz1, hz2⟩ := HP.out
          obtain ⟨v', w'', hrun, hown', hgb, _⟩ := run_append_any (P := Try.prog) w1 B 65 65 64 i0 _ 4 64 Try.underlying65 hi0 hz0 hz1 hz2 (by rfl) (by omega) _ _ _ hj w1.heap.size (some ⟨b, 0, none⟩) 1 1 _ hrd (by intro u hu; simp only [List.mem_cons, List.not_mem_nil, or_false] at hu; rcases hu with rfl | rfl | rfl | rfl <;> rfl) (by unfold maxLen; omega) (by omega) (by have := hk.size; have := HO.out.lt; have := HB5.out.size; have := HBO.out; omega)
          rw [hrow] at hgb
          exact Lib.wp_append_run w1 (.tmp 77) (.tmp 79) 65 65 rfl _ _ e77 e79' v' w'' hrun ⟨v', rfl, fun t ht => by cases ht; exact True.intro, hgb, hown'⟩
    have hltI : (j : Int) < (l.length : Int) := by omega
    have hkm := List.getElem_mem hlt
    have hk := HL.out _ hkm
    obtain ⟨ga, rfl, _, _, _, _, _, hca⟩ := own_cell (own_belowR HR.out HB.out) (by omega)
    have ck : wr.cell? ⟨ga, j, none⟩ = some (.int .i64 l[j]) := hca j _ (by simp [ints, natI, hlt])
    have HTK := hide (show l.take (j + 1) = l.take j ++ [l[j]] from List.take_succ_eq_append_getElem hlt)
    clear hca hkm
    generalize l[j] = k at *
    have hot := HO.out.below HB.out
    obtain ⟨V, vc, hbo, _, hcc⟩ := hot.open_
    obtain ⟨g, rfl, e0, e1, e2, e3⟩ := hcc k hk
    have hrw := (hot.rows k hk).2
    have o0 : wr.cell? ⟨o, 0, none⟩ = some (.slice (some ⟨g, 0, none⟩) es.length vc) := hbo.cell 0
    have hgd : es.getD k default = es[k] := by rw [List.getD_eq_getElem?_getD, List.getElem?_eq_getElem hk]; rfl
    have hxk := HFI.out.at_ hk
    have HM2 := HCK.out.merge hxk.1 HNS.out.1 HNS.out.2 (by omega)
    have HME := hide (show mergeL c (es.getD k default).ck = foldM es (List.replicate n 0) (l.take (j + 1)) by rw [HTK.out, foldM_snoc, ← HCE.out])
    have HDE2 := hide (show max d (1 + (es.getD k default).d) = foldD es 1 (l.take (j + 1)) by rw [HTK.out, foldD_snoc, ← HDE.out])
    have hm2 : may2B c (es.getD k default).ck = true := HCK.out.may2 hxk.1 HNS.out.1 HNS.out.2 (by omega)
    have hE : mergeE c (es.getD k default).ck = 0 := by unfold mergeE; rw [if_pos hm2]
    rw [hgd] at HME HDE2 HM2 hm2 hE hxk
    generalize es[k] = x at *
    obtain ⟨xr, xA, xacap, xah, xC, xccap, xck, xd⟩ := x
    simp only at e0 e1 e2 e3 hrw HME HDE2 HM2 hm2 hE hxk
    have hkI : (k : Int) < (es.length : Int) := by omega
    have MA := hide (fun (w' : World) (hb : Below wr.heap.size wr w') => merge_a cA xC c xck cc xccap w' (Reads.of_own (own_belowR HC.out hb)) (Reads.of_own (own_belowR hrw hb)) (by rw [hck.1]; unfold maxLen; have := HNS.out.2; omega) (by rw [hxk.1.1]; unfold maxLen; have := HNS.out.2; omega))
    rw [hE] at MA
    have HXD := hide hxk.2
    clear hot hbo hcc hrw hgd hm2 hE hck hk
    go_wp2_with fail
    let R : Nat → Value → World → Prop := fun sl u w1 => match sl with
      | 34 => u = .pointer (some ⟨w.heap.size, 0, none⟩)
      | 35 => u = .func (.func 38) #[] #[]
      | 36 => u = .slice cA c.length cc
      | 37 | 38 | 39 => u = .pointer (some ⟨o, 0, none⟩)
      | 40 => u = .slice (some ⟨g, 0, none⟩) es.length vc
      | 41 => u = .int .i64 k
      | 42 => u = .pointer (some ⟨g, k * 4, none⟩)
      | 43 => u = .pointer (some ⟨g, k * 4 + 2, none⟩)
      | 44 => u = .slice xC xck.length xccap
      | 45 | 33 => ∃ A2 c2, u = .tuple #[.slice A2 (mergeL c xck).length c2, .int .i64 0] ∧ Owned w1 w.heap.size A2 c2 (mergeL c xck)
      | 46 | 12 => ∃ A2 c2, u = .slice A2 (mergeL c xck).length c2 ∧ Owned w1 w.heap.size A2 c2 (mergeL c xck)
      | 47 | 13 => u = .int .i64 0
      | _ => True
    refine wp_region_relHW [] R (fun x y => Below x.heap.size x y) (fun _ w1 => Below wr.heap.size wr w1) (by kernel_rfl) (by kernel_rfl) (by kernel_rfl) (by kernel_rfl) ?mono8 (fun x => Below.refl _ _) (Below.refl _ _).drew (fun p hp => by cases hp) ?step8 ?fin8
    case mono8 =>
      intro sl u wx wy h hb
      match sl with
      | 45 | 33 | 46 | 12 =>
        obtain ⟨A2, c2, h1, h2⟩ := h
        exact ⟨A2, c2, h1, own_belowR h2 hb⟩
      | 0 | 1 | 2 | 3 | 4 | 5 | 6 | 7 | 8 | 9 | 10 | 11 | 13 | 14 | 15 | 16 | 17 | 18 | 19 | 20 | 21 | 22 | 23 | 24 | 25 | 26 | 27 | 28 | 29 | 30 | 31 | 32 | 34 | 35 | 36 | 37 | 38 | 39 | 40 | 41 | 42 | 43 | 44 | 47 | _ + 48 => exact h
    case step8 =>
      intro i op ho
      match i, ho with
      | 0, ho =>
        cases ho
        intro V a w1 hV hdep hval hj hsm hso hr
        have e9 : a.tmps.getD 9 undef = .pointer (some ⟨w.heap.size, 0, none⟩) := hsm 9 (by decide)
        rw [Array.getD_eq_getD_getElem?] at e9
        unfold Oper.wp
        simp only [execOp, Act.eval, Array.getD_eq_getD_getElem?, e9]
        go_simp
        exact ⟨_, rfl, rfl, Below.refl _ _⟩
      | 1, ho =>
        cases ho
        intro V a w1 hV hdep hval hj hsm hso hr
        have e34 : a.tmps.getD 34 undef = .pointer (some ⟨w.heap.size, 0, none⟩) := hr 34 (by decide) (by kernel_rfl) (by apply Array.mem_toList_iff.1; repeat (first | exact List.Mem.head _ | apply List.Mem.tail))
        have cc0 := (hj.cell (p := ⟨_, _, none⟩) (block_lt_of_cell k0)).trans k0
        rw [Array.getD_eq_getD_getElem?] at e34
        unfold Oper.wp
        simp only [execOp, Act.eval, Array.getD_eq_getD_getElem?, e34]
        go_simp
        exact ⟨_, rfl, rfl, Below.refl _ _⟩
      | 2, ho =>
        cases ho
        intro V a w1 hV hdep hval hj hsm hso hr
        have e12 : a.tmps.getD 12 undef = .slice cA c.length cc := hso 12 (by kernel_rfl)
        rw [Array.getD_eq_getD_getElem?] at e12
        unfold Oper.wp
        simp only [execOp, Act.eval, Array.getD_eq_getD_getElem?, e12]
        go_simp
        exact ⟨_, rfl, rfl, Below.refl _ _⟩
      | 3, ho =>
        cases ho
        intro V a w1 hV hdep hval hj hsm hso hr
        have e0 : a.tmps.getD 0 undef = .pointer (some ⟨o, 0, none⟩) := hsm 0 (by decide)
        rw [Array.getD_eq_getD_getElem?] at e0
        unfold Oper.wp
        simp only [execOp, Act.eval, Array.getD_eq_getD_getElem?, e0]
        go_simp
        exact ⟨_, rfl, rfl, Below.refl _ _⟩
      | 4, ho =>
        cases ho
        intro V a w1 hV hdep hval hj hsm hso hr
        have e37 : a.tmps.getD 37 undef = .pointer (some ⟨o, 0, none⟩) := hr 37 (by decide) (by kernel_rfl) (by apply Array.mem_toList_iff.1; repeat (first | exact List.Mem.head _ | apply List.Mem.tail))
        rw [Array.getD_eq_getD_getElem?] at e37
        unfold Oper.wp
        simp only [execOp, Act.eval, Array.getD_eq_getD_getElem?, e37]
        go_simp
        exact ⟨_, rfl, rfl, Below.refl _ _⟩
      | 5, ho =>
        cases ho
        intro V a w1 hV hdep hval hj hsm hso hr
        have e38 : a.tmps.getD 38 undef = .pointer (some ⟨o, 0, none⟩) := hr 38 (by decide) (by kernel_rfl) (by apply Array.mem_toList_iff.1; repeat (first | exact List.Mem.head _ | apply List.Mem.tail))
        rw [Array.getD_eq_getD_getElem?] at e38
        unfold Oper.wp
        simp only [execOp, Act.eval, Array.getD_eq_getD_getElem?, e38]
        go_simp
        exact ⟨_, rfl, rfl, Below.refl _ _⟩
      | 6, ho =>
        cases ho
        intro V a w1 hV hdep hval hj hsm hso hr
        have e39 : a.tmps.getD 39 undef = .pointer (some ⟨o, 0, none⟩) := hr 39 (by decide) (by kernel_rfl) (by apply Array.mem_toList_iff.1; repeat (first | exact List.Mem.head _ | apply List.Mem.tail))
        have cc0 := (hj.cell (p := ⟨_, _, none⟩) (block_lt_of_cell o0)).trans o0
        rw [Array.getD_eq_getD_getElem?] at e39
        unfold Oper.wp
        simp only [execOp, Act.eval, Array.getD_eq_getD_getElem?, e39]
        go_simp
        exact ⟨_, rfl, rfl, Below.refl _ _⟩
      | 7, ho =>
        cases ho
        intro V a w1 hV hdep hval hj hsm hso hr
        have e15 : a.tmps.getD 15 undef = .int .i64 k := hsm 15 (by decide)
        rw [Array.getD_eq_getD_getElem?] at e15
        unfold Oper.wp
        simp only [execOp, Act.eval, Array.getD_eq_getD_getElem?, e15]
        go_simp
        exact ⟨_, rfl, rfl, Below.refl _ _⟩
      | 8, ho =>
        cases ho
        intro V a w1 hV hdep hval hj hsm hso hr
        have e40 : a.tmps.getD 40 undef = .slice (some ⟨g, 0, none⟩) es.length vc := hr 40 (by decide) (by kernel_rfl) (by apply Array.mem_toList_iff.1; repeat (first | exact List.Mem.head _ | apply List.Mem.tail))
        have e41 : a.tmps.getD 41 undef = .int .i64 k := hr 41 (by decide) (by kernel_rfl) (by apply Array.mem_toList_iff.1; repeat (first | exact List.Mem.head _ | apply List.Mem.tail))
        rw [Array.getD_eq_getD_getElem?] at e40
        rw [Array.getD_eq_getD_getElem?] at e41
        unfold Oper.wp
        simp only [execOp, Act.eval, Array.getD_eq_getD_getElem?, e40, e41]
        go_simp
        exact ⟨_, rfl, rfl, Below.refl _ _⟩
      | 9, ho =>
        cases ho
        intro V a w1 hV hdep hval hj hsm hso hr
        have e42 : a.tmps.getD 42 undef = .pointer (some ⟨g, k * 4, none⟩) := hr 42 (by decide) (by kernel_rfl) (by apply Array.mem_toList_iff.1; repeat (first | exact List.Mem.head _ | apply List.Mem.tail))
        rw [Array.getD_eq_getD_getElem?] at e42
        unfold Oper.wp
        simp only [execOp, Act.eval, Array.getD_eq_getD_getElem?, e42]
        go_simp
        exact ⟨_, rfl, rfl, Below.refl _ _⟩
      | 10, ho =>
        cases ho
        intro V a w1 hV hdep hval hj hsm hso hr
        have e43 : a.tmps.getD 43 undef = .pointer (some ⟨g, k * 4 + 2, none⟩) := hr 43 (by decide) (by kernel_rfl) (by apply Array.mem_toList_iff.1; repeat (first | exact List.Mem.head _ | apply List.Mem.tail))
        have cc0 := (hj.cell (p := ⟨_, _, none⟩) (block_lt_of_cell e2)).trans e2
        rw [Array.getD_eq_getD_getElem?] at e43
        unfold Oper.wp
        simp only [execOp, Act.eval, Array.getD_eq_getD_getElem?, e43]
        go_simp
        exact ⟨_, rfl, rfl, Below.refl _ _⟩
      | 11, ho =>
        cases ho
        intro V a w1 hV hdep hval hj hsm hso hr
        have e35 : a.tmps.getD 35 undef = .func (.func 38) #[] #[] := hr 35 (by decide) (by kernel_rfl) (by apply Array.mem_toList_iff.1; repeat (first | exact List.Mem.head _ | apply List.Mem.tail))
        have e36 : a.tmps.getD 36 undef = .slice cA c.length cc := hr 36 (by decide) (by kernel_rfl) (by apply Array.mem_toList_iff.1; repeat (first | exact List.Mem.head _ | apply List.Mem.tail))
        have e44 : a.tmps.getD 44 undef = .slice xC xck.length xccap := hr 44 (by decide) (by kernel_rfl) (by apply Array.mem_toList_iff.1; repeat (first | exact List.Mem.head _ | apply List.Mem.tail))
        rw [Array.getD_eq_getD_getElem?] at e35
        rw [Array.getD_eq_getD_getElem?] at e36
        rw [Array.getD_eq_getD_getElem?] at e44
        unfold Oper.wp
        simp only [execOp, Act.eval, Array.getD_eq_getD_getElem?, e35, e36, e44]
        go_simp
        refine (MA.out _ hj).mono ?_
        rintro e w' ⟨A2, c2, rfl, ho2, hb2⟩
        exact ⟨_, rfl, ⟨A2, c2, rfl, own_more ho2 (Nat.le_trans HB.out.size hj.size)⟩, hb2, hj.trans (hb2.mono hj.size)⟩
      | 12, ho =>
        cases ho
        intro V a w1 hV hdep hval hj hsm hso hr
        have e45 : ∃ A2 c2, a.tmps.getD 45 undef = .tuple #[.slice A2 (mergeL c xck).length c2, .int .i64 0] ∧ Owned w1 w.heap.size A2 c2 (mergeL c xck) := hr 45 (by decide) (by kernel_rfl) (by apply Array.mem_toList_iff.1; repeat (first | exact List.Mem.head _ | apply List.Mem.tail))
        obtain ⟨A2, c2, e45', ho2⟩ := e45
        rw [Array.getD_eq_getD_getElem?] at e45'
        unfold Oper.wp
        simp only [execOp, Act.eval, Array.getD_eq_getD_getElem?, e45']
        go_simp
        exact ⟨_, rfl, ⟨A2, c2, rfl, ho2⟩, Below.refl _ _⟩
      | 13, ho =>
        cases ho
        intro V a w1 hV hdep hval hj hsm hso hr
        have e33 : ∃ A2 c2, a.tmps.getD 33 undef = .tuple #[.slice A2 (mergeL c xck).length c2, .int .i64 0] ∧ Owned w1 w.heap.size A2 c2 (mergeL c xck) := hr 33 (by decide) (by kernel_rfl) (by apply Array.mem_toList_iff.1; repeat (first | exact List.Mem.head _ | apply List.Mem.tail))
        obtain ⟨A2, c2, e33', ho2⟩ := e33
        rw [Array.getD_eq_getD_getElem?] at e33'
        unfold Oper.wp
        simp only [execOp, Act.eval, Array.getD_eq_getD_getElem?, e33']
        go_simp
        exact ⟨_, rfl, ⟨A2, c2, rfl, ho2⟩, Below.refl _ _⟩
      | 14, ho =>
        cases ho
        intro V a w1 hV hdep hval hj hsm hso hr
        have e33 : ∃ A2 c2, a.tmps.getD 33 undef = .tuple #[.slice A2 (mergeL c xck).length c2, .int .i64 0] ∧ Owned w1 w.heap.size A2 c2 (mergeL c xck) := hr 33 (by decide) (by kernel_rfl) (by apply Array.mem_toList_iff.1; repeat (first | exact List.Mem.head _ | apply List.Mem.tail))
        obtain ⟨A2, c2, e33', ho2⟩ := e33
        rw [Array.getD_eq_getD_getElem?] at e33'
        unfold Oper.wp
        simp only [execOp, Act.eval, Array.getD_eq_getD_getElem?, e33']
        go_simp
        exact ⟨_, rfl, rfl, Below.refl _ _⟩
      | 15, ho =>
        cases ho
        intro V a w1 hV hdep hval hj hsm hso hr
        have e46 : ∃ A2 c2, a.tmps.getD 46 undef = .slice A2 (mergeL c xck).length c2 ∧ Owned w1 w.heap.size A2 c2 (mergeL c xck) := hr 46 (by decide) (by kernel_rfl) (by apply Array.mem_toList_iff.1; repeat (first | exact List.Mem.head _ | apply List.Mem.tail))
        obtain ⟨A2, c2, e46', ho2⟩ := e46
        rw [Array.getD_eq_getD_getElem?] at e46'
        unfold Oper.wp
        simp only [execOp, Act.eval, Array.getD_eq_getD_getElem?, e46']
        go_simp
        exact ⟨_, rfl, ⟨A2, c2, rfl, ho2⟩, Below.refl _ _⟩
      | 16, ho =>
        cases ho
        intro V a w1 hV hdep hval hj hsm hso hr
        have e47 : a.tmps.getD 47 undef = .int .i64 0 := hr 47 (by decide) (by kernel_rfl) (by apply Array.mem_toList_iff.1; repeat (first | exact List.Mem.head _ | apply List.Mem.tail))
        rw [Array.getD_eq_getD_getElem?] at e47
        unfold Oper.wp
        simp only [execOp, Act.eval, Array.getD_eq_getD_getElem?, e47]
        go_simp
        exact ⟨_, rfl, rfl, Below.refl _ _⟩
      | i + 17, ho => cases ho
    case fin8 =>
      intro ff V9 w9 hVs hb hr
      obtain ⟨A2, c2, e12, ho46⟩ := hr 12 (by decide)
      have e13 : ff 13 = .int .i64 0 := hr 13 (by decide)
      have BX9 := BX.out.below hb BX.out.lt
      have K9 := hide (K.out.below hb K.out.lt)
      have HB9 := hide (HB.out.trans (hb.mono HB.out.size))
      have HC9 := hide ho46
      have b3 : w9.cell? ⟨w.heap.size + 1, 3, none⟩ = some (.int .i64 d) := BX9.cell 3
      have f3 := BX9.frozen 3
      have p0 := (hb.cell (p := ⟨_, _, none⟩) (block_lt_of_cell o0)).trans o0
      have p3 := (hb.cell (p := ⟨_, _, none⟩) (block_lt_of_cell e3)).trans e3
      have hne : (Value.slice A2 (mergeL c xck).length c2).ownBlock ≠ some (w.heap.size + 1) := own_blk_ne ho46 BX9 (by decide)
      have HBX9 := hide BX9
      have HNE := hide hne
      have hxd := HXD.out
      have hle2 := hle
      clear hVs hr hb ho46 BX9 hne k0 k1 ck o0 e0 e1 e2 e3
      simp only [putAll, slotsOf, List.take, List.drop, List.filterMap_cons, List.filterMap_nil, List.foldl_cons, List.foldl_nil, Act.put, e12, e13]
      simp only [List.setIfInBounds_toArray, List.set_cons_succ, List.set_cons_zero]
      go_wp2_with fail
      let R9 : Nat → Value → World → Prop := fun sl u _ => match sl with
        | 48 => u = .pointer (some ⟨w.heap.size + 1, 3, none⟩)
        | 49 => u = .int .i64 d
        | 50 | 51 | 52 => u = .pointer (some ⟨o, 0, none⟩)
        | 53 => u = .slice (some ⟨g, 0, none⟩) es.length vc
        | 54 => u = .int .i64 k
        | 55 => u = .pointer (some ⟨g, k * 4, none⟩)
        | 56 => u = .pointer (some ⟨g, k * 4 + 3, none⟩)
        | 57 => u = .int .i64 xd
        | 58 => u = .int .i64 ((1 + xd : Nat) : Int)
        | 59 => u = .int .i64 ((max d (1 + xd) : Nat) : Int)
        | _ => True
      refine wp_region_relT 12 R9 (by kernel_rfl) (by kernel_rfl) (by kernel_rfl) (by kernel_rfl) (fun t v wx wy h _ => h) ?step9 ?fin9
      case step9 =>
        intro op hop
        simp only [List.take, List.mem_cons, List.not_mem_nil, or_false] at hop
        rcases hop with rfl | rfl | rfl | rfl | rfl | rfl | rfl | rfl | rfl | rfl | rfl | rfl
        · intro a w1 hb hs hr
          have e11 : a.tmps.getD 11 undef = .pointer (some ⟨w.heap.size + 1, 0, none⟩) := hs 11 (by decide)
          rw [Array.getD_eq_getD_getElem?] at e11
          unfold Oper.wp
          simp only [execOp, Act.eval, Array.getD_eq_getD_getElem?, e11]
          go_simp
          exact ⟨_, rfl, rfl, Below.refl _ _⟩
        · intro a w1 hb hs hr
          have e48 : a.tmps.getD 48 undef = .pointer (some ⟨w.heap.size + 1, 3, none⟩) := hr 48 (by decide) (by apply Array.mem_toList_iff.1; repeat (first | exact List.Mem.head _ | apply List.Mem.tail))
          have cc0 := (hb.cell (p := ⟨_, _, none⟩) HBX9.out.lt).trans b3
          rw [Array.getD_eq_getD_getElem?] at e48
          unfold Oper.wp
          simp only [execOp, Act.eval, Array.getD_eq_getD_getElem?, e48]
          go_simp
          exact ⟨_, rfl, rfl, Below.refl _ _⟩
        · intro a w1 hb hs hr
          have e0 : a.tmps.getD 0 undef = .pointer (some ⟨o, 0, none⟩) := hs 0 (by decide)
          rw [Array.getD_eq_getD_getElem?] at e0
          unfold Oper.wp
          simp only [execOp, Act.eval, Array.getD_eq_getD_getElem?, e0]
          go_simp
          exact ⟨_, rfl, rfl, Below.refl _ _⟩
        · intro a w1 hb hs hr
          have e50 : a.tmps.getD 50 undef = .pointer (some ⟨o, 0, none⟩) := hr 50 (by decide) (by apply Array.mem_toList_iff.1; repeat (first | exact List.Mem.head _ | apply List.Mem.tail))
          rw [Array.getD_eq_getD_getElem?] at e50
          unfold Oper.wp
          simp only [execOp, Act.eval, Array.getD_eq_getD_getElem?, e50]
          go_simp
          exact ⟨_, rfl, rfl, Below.refl _ _⟩
        · intro a w1 hb hs hr
          have e51 : a.tmps.getD 51 undef = .pointer (some ⟨o, 0, none⟩) := hr 51 (by decide) (by apply Array.mem_toList_iff.1; repeat (first | exact List.Mem.head _ | apply List.Mem.tail))
          rw [Array.getD_eq_getD_getElem?] at e51
          unfold Oper.wp
          simp only [execOp, Act.eval, Array.getD_eq_getD_getElem?, e51]
          go_simp
          exact ⟨_, rfl, rfl, Below.refl _ _⟩
        · intro a w1 hb hs hr
          have e52 : a.tmps.getD 52 undef = .pointer (some ⟨o, 0, none⟩) := hr 52 (by decide) (by apply Array.mem_toList_iff.1; repeat (first | exact List.Mem.head _ | apply List.Mem.tail))
          have cc0 := (hb.cell (p := ⟨_, _, none⟩) (block_lt_of_cell p0)).trans p0
          rw [Array.getD_eq_getD_getElem?] at e52
          unfold Oper.wp
          simp only [execOp, Act.eval, Array.getD_eq_getD_getElem?, e52]
          go_simp
          exact ⟨_, rfl, rfl, Below.refl _ _⟩
        · intro a w1 hb hs hr
          have e15 : a.tmps.getD 15 undef = .int .i64 k := hs 15 (by decide)
          rw [Array.getD_eq_getD_getElem?] at e15
          unfold Oper.wp
          simp only [execOp, Act.eval, Array.getD_eq_getD_getElem?, e15]
          go_simp
          exact ⟨_, rfl, rfl, Below.refl _ _⟩
        · intro a w1 hb hs hr
          have e53 : a.tmps.getD 53 undef = .slice (some ⟨g, 0, none⟩) es.length vc := hr 53 (by decide) (by apply Array.mem_toList_iff.1; repeat (first | exact List.Mem.head _ | apply List.Mem.tail))
          have e54 : a.tmps.getD 54 undef = .int .i64 k := hr 54 (by decide) (by apply Array.mem_toList_iff.1; repeat (first | exact List.Mem.head _ | apply List.Mem.tail))
          rw [Array.getD_eq_getD_getElem?] at e53
          rw [Array.getD_eq_getD_getElem?] at e54
          unfold Oper.wp
          simp only [execOp, Act.eval, Array.getD_eq_getD_getElem?, e53, e54]
          go_simp
          exact ⟨_, rfl, rfl, Below.refl _ _⟩
        · intro a w1 hb hs hr
          have e55 : a.tmps.getD 55 undef = .pointer (some ⟨g, k * 4, none⟩) := hr 55 (by decide) (by apply Array.mem_toList_iff.1; repeat (first | exact List.Mem.head _ | apply List.Mem.tail))
          rw [Array.getD_eq_getD_getElem?] at e55
          unfold Oper.wp
          simp only [execOp, Act.eval, Array.getD_eq_getD_getElem?, e55]
          go_simp
          exact ⟨_, rfl, rfl, Below.refl _ _⟩
        · intro a w1 hb hs hr
          have e56 : a.tmps.getD 56 undef = .pointer (some ⟨g, k * 4 + 3, none⟩) := hr 56 (by decide) (by apply Array.mem_toList_iff.1; repeat (first | exact List.Mem.head _ | apply List.Mem.tail))
          have cc0 := (hb.cell (p := ⟨_, _, none⟩) (block_lt_of_cell p3)).trans p3
          rw [Array.getD_eq_getD_getElem?] at e56
          unfold Oper.wp
          simp only [execOp, Act.eval, Array.getD_eq_getD_getElem?, e56]
          go_simp
          exact ⟨_, rfl, rfl, Below.refl _ _⟩
        · intro a w1 hb hs hr
          have e57 : a.tmps.getD 57 undef = .int .i64 xd := hr 57 (by decide) (by apply Array.mem_toList_iff.1; repeat (first | exact List.Mem.head _ | apply List.Mem.tail))
          rw [Array.getD_eq_getD_getElem?] at e57
          unfold Oper.wp
          simp only [execOp, Act.eval, Array.getD_eq_getD_getElem?, e57]
          go_simp
          exact ⟨_, rfl, (by show Value.int IntKind.i64 _ = .int .i64 _; congr 1; rw [IntKind.wrap_i64]; omega), Below.refl _ _⟩
        · intro a w1 hb hs hr
          have e49 : a.tmps.getD 49 undef = .int .i64 d := hr 49 (by decide) (by apply Array.mem_toList_iff.1; repeat (first | exact List.Mem.head _ | apply List.Mem.tail))
          have e58 : a.tmps.getD 58 undef = .int .i64 ((1 + xd : Nat) : Int) := hr 58 (by decide) (by apply Array.mem_toList_iff.1; repeat (first | exact List.Mem.head _ | apply List.Mem.tail))
          rw [Array.getD_eq_getD_getElem?] at e49
          rw [Array.getD_eq_getD_getElem?] at e58
          unfold Oper.wp
          simp only [execOp, Act.eval, Array.getD_eq_getD_getElem?, e49, e58]
          go_simp
          exact ⟨_, rfl, (by show Value.int IntKind.i64 _ = .int .i64 _; congr 1; omega), Below.refl _ _⟩
      case fin9 =>
        intro ff w8 hb hr
        have e59 : ff 59 = .int .i64 ((max d (1 + xd) : Nat) : Int) := hr 59 (by decide)
        have BX8 := HBX9.out.below hb HBX9.out.lt
        have b38 : w8.cell? ⟨w.heap.size + 1, 3, none⟩ = some (.int .i64 d) := BX8.cell 3
        have f38 := BX8.frozen 3
        have HBX8 := hide (BX8.set_ 3 (.int .i64 ((max d (1 + xd) : Nat) : Int)))
        have HK8 := hide ((K9.out.below hb K9.out.lt).far (p := ⟨w.heap.size + 1, 3, none⟩) (by show w.heap.size ≠ w.heap.size + 1; omega) (.int .i64 ((max d (1 + xd) : Nat) : Int)))
        have HB8 := hide ((HB9.out.trans (hb.mono HB9.out.size)).setCell (p := ⟨w.heap.size + 1, 3, none⟩) (by show w.heap.size ≤ w.heap.size + 1; omega) (.int .i64 ((max d (1 + xd) : Nat) : Int)))
        have HC8 := hide (own_setCell (own_belowR HC9.out hb) (p := ⟨w.heap.size + 1, 3, none⟩) HNE.out (.int .i64 ((max d (1 + xd) : Nat) : Int)))
        clear hr hb BX8 b3 f3 p0 p3
        simp only [putAll, slotsOf, List.take, List.drop, List.filterMap_cons, List.filterMap_nil, List.foldl_cons, List.foldl_nil, Act.put, e59]
        simp only [List.setIfInBounds_toArray, List.set_cons_succ, List.set_cons_zero]
        obtain ⟨dz, hdz⟩ : ∃ x, (max d (1 + xd) : Nat) = x := ⟨_, rfl⟩
        rw [hdz] at HBX8 HK8 HB8 HC8 HDE2 ⊢
        clear hdz
        go_wp2_with fail
        go_roundw
        case rel => exact ⟨j + 1, dz, mergeL c xck, A2, c2, by omega, by go_num, rfl, rfl, HME, HDE2, HC8, HBX8, HK8, HB8⟩
        case measure => simp [intOf]; omega
end Ord
end Go.Proofs.Ytflaikhkddjfjaa
