/- The keys of what comes of calls on a group: all unlike. No program's text. -/
import Derived.Test.YtgiibknfkphkgaaDoorRows
import Derived.Test.YtgiibknfkphkgaaDoorSpF
namespace Go.Proofs.YtgiibknfkphkgaaDoor
open Go Go.RowKit Go.Lib Go.Proofs.YtgiibknfkphkgaaDoor.Grp
set_option linter.unusedVariables false
set_option linter.unusedSimpArgs false
namespace Sp
theorem dec_dig (u : Nat) : ∀ b ∈ decDigits u, 48 ≤ b.toNat ∧ b.toNat ≤ 57 := by
  induction u using Nat.strongRecOn with
  | ind u ih =>
    intro b hb
    rw [decDigits] at hb
    split at hb
    · rename_i h
      rw [List.mem_singleton.1 hb, UInt8.toNat_ofNat']
      omega
    · rename_i h
      rcases List.mem_append.1 hb with hb | hb
      · exact ih (u / 10) (by omega) b hb
      · rw [List.mem_singleton.1 hb, UInt8.toNat_ofNat']
        omega
def valD (l : List UInt8) : Nat := l.foldl (fun n b => n * 10 + (b.toNat - 48)) 0
theorem val_dec (u : Nat) : valD (decDigits u) = u := by
  induction u using Nat.strongRecOn with
  | ind u ih =>
    rw [decDigits]
    split
    · rename_i h
      unfold valD
      simp only [List.foldl_cons, List.foldl_nil]
      rw [UInt8.toNat_ofNat']
      omega
    · rename_i h
      have h1 := ih (u / 10) (by omega)
      unfold valD at h1 ⊢
      rw [List.foldl_append, h1]
      simp only [List.foldl_cons, List.foldl_nil]
      rw [UInt8.toNat_ofNat']
      omega
theorem itoa_inj {a b : Int} (ha : 0 ≤ a) (hb : 0 ≤ b) (h : itoa a = itoa b) : a = b := by
  obtain ⟨u, rfl⟩ : ∃ u : Nat, a = u := ⟨a.toNat, by omega⟩
  obtain ⟨v, rfl⟩ : ∃ v : Nat, b = v := ⟨b.toNat, by omega⟩
  rw [itoa_nonneg, itoa_nonneg] at h
  have := congrArg valD h
  rw [val_dec, val_dec] at this
  omega
theorem itoa_no {a : Int} (ha : 0 ≤ a) : ¬ (58 : UInt8) ∈ itoa a := fun h => by
  obtain ⟨u, rfl⟩ : ∃ u : Nat, a = u := ⟨a.toNat, by omega⟩
  rw [itoa_nonneg] at h
  have := (dec_dig u 58 h).2
  exact absurd this (by decide)
theorem cut_at {x : UInt8} : ∀ {a a' b b' : List UInt8}, ¬ x ∈ a → ¬ x ∈ a' → a ++ x :: b = a' ++ x :: b' → a = a' ∧ b = b'
  | [], [], _, _, _, _, h => by simpa using h
  | [], y :: a', _, _, _, h2, h => by
    have h : x = y ∧ _ := List.cons.inj h
    exact absurd (by rw [h.1]; exact List.mem_cons_self) h2
  | y :: a, [], _, _, h1, _, h => by
    have h : y = x ∧ _ := List.cons.inj h
    exact absurd (by rw [← h.1]; exact List.mem_cons_self) h1
  | y :: a, y' :: a', b, b', h1, h2, h => by
    have h := List.cons.inj h
    obtain ⟨e1, e2⟩ := cut_at (a := a) (a' := a') (b := b) (b' := b') (fun hm => h1 (List.mem_cons_of_mem _ hm)) (fun hm => h2 (List.mem_cons_of_mem _ hm)) h.2
    exact ⟨by rw [h.1, e1], e2⟩
/-- What stands behind the group's own key. -/
def sf1 (k : Int) : List UInt8 := 46 :: itoa k
def sf2 (k c : Int) : List UInt8 := 46 :: (itoa k ++ 58 :: itoa c)
theorem sf1_inj {k m : Int} (hk : 0 ≤ k) (hm : 0 ≤ m) (h : sf1 k = sf1 m) : k = m := itoa_inj hk hm (List.cons.inj h).2
theorem sf12 {k m c : Int} (hk : 0 ≤ k) : sf1 k ≠ sf2 m c := fun h => by
  have h := (List.cons.inj h).2
  exact itoa_no hk (by rw [h]; simp)
theorem sf2_inj {k m c d : Int} (hk : 0 ≤ k) (hm : 0 ≤ m) (hc : 0 ≤ c) (hd : 0 ≤ d) (h : sf2 k c = sf2 m d) : k = m ∧ c = d := by
  obtain ⟨h1, h2⟩ := cut_at (itoa_no hk) (itoa_no hm) (List.cons.inj h).2
  exact ⟨itoa_inj hk hm h1, itoa_inj hc hd h2⟩
def ksK (k m : Int) (c d : List Int) : List (List UInt8) := [sf1 k, sf1 m] ++ c.map (sf2 k) ++ d.map (sf2 m)
theorem ks_nodup {k m : Int} {c d : List Int} (hk : 0 ≤ k) (hm : 0 ≤ m) (hkm : k ≠ m) (hc : c.Nodup) (hd : d.Nodup) (hc0 : ∀ x ∈ c, 0 ≤ x) (hd0 : ∀ x ∈ d, 0 ≤ x) : (ksK k m c d).Nodup := by
  have hmap : ∀ (k : Int) (c : List Int), 0 ≤ k → c.Nodup → (∀ x ∈ c, 0 ≤ x) → (c.map (sf2 k)).Nodup := fun k c hk hc h0 => by
    rw [List.Nodup, List.pairwise_map]
    exact hc.imp_of_mem fun {x y} hx hy hne e => hne (sf2_inj hk hk (h0 x hx) (h0 y hy) e).2
  unfold ksK
  rw [List.nodup_append]
  refine ⟨?_, hmap m d hm hd hd0, fun a ha b hb e => ?_⟩
  · rw [List.nodup_append]
    refine ⟨by simp only [List.nodup_cons, List.mem_singleton, List.not_mem_nil, not_false_eq_true, List.nodup_nil, and_true]; exact fun h => hkm (sf1_inj hk hm h), hmap k c hk hc hc0, fun a ha b hb e => ?_⟩
    obtain ⟨x, _, rfl⟩ := List.mem_map.1 hb
    simp only [List.mem_cons, List.not_mem_nil, or_false] at ha
    rcases ha with rfl | rfl
    · exact sf12 hk e
    · exact sf12 hm e
  · obtain ⟨x, hx, rfl⟩ := List.mem_map.1 hb
    rcases List.mem_append.1 ha with ha | ha
    · simp only [List.mem_cons, List.not_mem_nil, or_false] at ha
      rcases ha with rfl | rfl
      · exact sf12 hk e
      · exact sf12 hm e
    · obtain ⟨y, hy, rfl⟩ := List.mem_map.1 ha
      exact hkm (sf2_inj hk hm (hc0 y hy) (hd0 x hx) e).1
theorem ba_ext {a b : ByteArray} (h : a.data.toList = b.data.toList) : a = b := by
  obtain ⟨a⟩ := a
  obtain ⟨b⟩ := b
  exact congrArg ByteArray.mk (Array.toList_inj.1 h)
theorem ba_app (a b : ByteArray) : (a ++ b).data.toList = a.data.toList ++ b.data.toList := by
  rw [ByteArray.data_append, Array.toList_append]
theorem ba_bytes (l : List UInt8) : (bytes l).data.toList = l := rfl
theorem behind_sf (key : ByteArray) (k : Int) : behindS key k = key ++ bytes (sf1 k) := by
  apply ba_ext
  unfold behindS sf1
  rw [ba_app, ba_app, ba_app, ba_bytes, ba_bytes, ba_bytes]
  simp
theorem key_sf (key : ByteArray) (k c : Int) : keyK key k c = key ++ bytes (sf2 k c) := by
  apply ba_ext
  unfold keyK behindS sf2
  rw [ba_app, ba_app, ba_app, ba_app, ba_app, ba_bytes, ba_bytes, ba_bytes, ba_bytes, ba_bytes]
  simp
theorem sf_pos {k m : Int} {c d : List Int} : ∀ s ∈ ksK k m c d, 0 < s.length := by
  intro s hs
  unfold ksK at hs
  rcases List.mem_append.1 hs with hs | hs
  · rcases List.mem_append.1 hs with hs | hs
    · simp only [List.mem_cons, List.not_mem_nil, or_false] at hs
      rcases hs with rfl | rfl <;> exact Nat.succ_pos _
    · obtain ⟨x, _, rfl⟩ := List.mem_map.1 hs
      exact Nat.succ_pos _
  · obtain ⟨x, _, rfl⟩ := List.mem_map.1 hs
    exact Nat.succ_pos _
theorem key_pre (key : ByteArray) (l : List UInt8) : (key ++ bytes l).extract 0 key.size = key := by
  apply ba_ext
  rw [ByteArray.data_extract, Array.toList_extract, ba_app]
  simp [List.extract]
theorem key_inj {key : ByteArray} {a b : List UInt8} (h : key ++ bytes a = key ++ bytes b) : a = b := by
  have h1 := congrArg (fun x : ByteArray => x.data.toList) h
  simp only [ba_app, ba_bytes] at h1
  exact List.append_cancel_left h1
end Sp
end Go.Proofs.YtgiibknfkphkgaaDoor
