/-
  What is read of a node's bytes is that node; Decode of package node, by contract.
-/
import Derived.Test.YtceefoopehoalaaNdH
import Derived.Test.YtceefoopehoalaaNdT
namespace Go.Proofs.Ytceefoopehoalaa
open Go.RowKit
theorem getN_at (pre rest : List UInt8) (s x : Nat) (hx : x < 256 ^ s) : getN (pre ++ (be s x ++ rest)) pre.length s = x := by
  unfold getN
  rw [if_pos (by simp [be_length])]
  have e : ((pre ++ (be s x ++ rest)).drop pre.length).take s = be s x := by
    rw [List.drop_left, List.take_append_of_le_length (by rw [be_length]; exact Nat.le_refl _), List.take_of_length_le (by rw [be_length]; exact Nat.le_refl _)]
  rw [e]
  have h := ofBe_be s x 0
  rw [Nat.mod_eq_of_lt hx] at h
  simpa using h
theorem cutT_at (pre t rest : List UInt8) : cutT (pre ++ (t ++ rest)) pre.length t.length = t := by
  unfold cutT
  rw [if_pos (by simp), List.drop_left, List.take_left]
theorem take_more {α : Type} (l : List α) (d : α) {k : Nat} (h : k < l.length) : l.take k ++ [l.getD k d] = l.take (k + 1) := by
  rw [List.take_succ_eq_append_getElem h]
  simp [List.getD, h]
theorem Nd.parts_pre (n : Nd) (k : Nat) : ∀ j, ∃ rest, (n.parts (k + j)).flatten = (n.parts k).flatten ++ rest
  | 0 => ⟨[], by simp⟩
  | j + 1 => by
    obtain ⟨rest, h⟩ := n.parts_pre k j
    refine ⟨rest ++ (n.cellParts (k + j)).flatten, ?_⟩
    rw [← Nat.add_assoc, Nd.parts, List.flatten_append, h, List.append_assoc]
theorem Nd.bytes_pre (n : Nd) {k : Nat} (h : k ≤ n.keys.length) : ∃ rest, n.bytes = (n.parts k).flatten ++ rest := by
  obtain ⟨rest, e⟩ := n.parts_pre k (n.keys.length - k)
  rw [Nat.add_sub_of_le h] at e
  exact ⟨rest, e⟩
theorem Nd.rdAt_leaf {n : Nd} (hs : n.Snd) (hl : n.leaf = true) : ∀ k, k ≤ n.keys.length → rdAt true n.bytes k = (⟨true, n.keys.take k, n.vals.take k, []⟩, (n.parts k).flatten.length)
  | 0, _ => by
    simp [rdAt, Nd.parts, Nd.head, hl, be_length]
  | k + 1, hk => by
    obtain ⟨rest, he⟩ := n.bytes_pre hk
    have hP : (n.parts (k + 1)).flatten = (n.parts k).flatten ++ (be 1 (n.keys.getD k []).length ++ (n.keys.getD k [] ++ (be 1 (n.vals.getD k []).length ++ n.vals.getD k []))) := by
      rw [Nd.parts_leaf hl]; simp
    have hkl := (hs.keys k (by omega)).1.2
    have hvl := hs.vals k (by rw [(hs.ofLeaf hl).2]; omega)
    have hv1 := (hs.ofLeaf hl).2
    rw [rdAt, Nd.rdAt_leaf hs hl k (by omega)]
    obtain ⟨P, hPP⟩ : ∃ P, P = (n.parts k).flatten := ⟨_, rfl⟩
    obtain ⟨key, hkey⟩ : ∃ x, x = n.keys.getD k [] := ⟨_, rfl⟩
    obtain ⟨val, hval⟩ : ∃ x, x = n.vals.getD k [] := ⟨_, rfl⟩
    rw [hP] at he
    rw [hP, ← take_more n.keys [] (by omega), ← take_more n.vals [] (by omega)]
    rw [← hPP, ← hkey, ← hval] at he
    rw [← hPP, ← hkey, ← hval]
    rw [← hkey] at hkl
    rw [← hval] at hvl
    have g1 : getN n.bytes P.length 1 = key.length := by
      rw [he]
      have := getN_at P (key ++ (be 1 val.length ++ val) ++ rest) 1 key.length (by omega)
      simpa using this
    have g2 : cutT n.bytes (P.length + 1) key.length = key := by
      rw [he]
      have := cutT_at (P ++ be 1 key.length) key (be 1 val.length ++ val ++ rest)
      simpa [be_length] using this
    have g3 : getN n.bytes (P.length + 1 + key.length) 1 = val.length := by
      rw [he]
      have := getN_at (P ++ be 1 key.length ++ key) (val ++ rest) 1 val.length (by omega)
      simpa [be_length, Nat.add_assoc] using this
    have g4 : cutT n.bytes (P.length + 1 + key.length + 1) val.length = val := by
      rw [he]
      have := cutT_at (P ++ be 1 key.length ++ key ++ be 1 val.length) val rest
      simpa [be_length, Nat.add_assoc] using this
    rw [if_pos rfl]
    dsimp only
    rw [g1, g2, g3, g4]
    simp [be_length]
    omega
theorem Nd.rdAt_not {n : Nd} (hs : n.Snd) (hl : n.leaf = false) : ∀ k, k ≤ n.keys.length → rdAt false n.bytes k = (⟨false, n.keys.take k, [], n.kids.take (k + 1)⟩, (n.parts k).flatten.length)
  | 0, _ => by
    obtain ⟨rest, he⟩ := n.bytes_pre (k := 0) (Nat.zero_le _)
    have h0 := hs.kids 0 (by rw [(hs.ofNot hl).2.2]; omega)
    have hP : (n.parts 0).flatten = be 1 n.keys.length ++ be 2 (n.kids.getD 0 0).toNat := by simp [Nd.parts, Nd.head, hl]
    have ht := take_more n.kids 0 (k := 0) (by rw [(hs.ofNot hl).2.2]; omega)
    have hb := h0.1
    have hb2 := h0.2
    rw [hP] at he ⊢
    obtain ⟨x, hx⟩ : ∃ x, x = n.kids.getD 0 0 := ⟨_, rfl⟩
    rw [← hx] at he hb hb2 ht ⊢
    have g1 : getN n.bytes 1 2 = x.toNat := by
      rw [he]
      have := getN_at (be 1 n.keys.length) rest 2 x.toNat (by omega)
      simpa [be_length] using this
    rw [← ht]
    have e : ((x.toNat : Nat) : Int) = x := by omega
    simp [rdAt, g1, be_length, e]
  | k + 1, hk => by
    obtain ⟨rest, he⟩ := n.bytes_pre hk
    have hP : (n.parts (k + 1)).flatten = (n.parts k).flatten ++ (be 1 (n.keys.getD k []).length ++ (n.keys.getD k [] ++ be 2 (n.kids.getD (k + 1) 0).toNat)) := by
      rw [Nd.parts_not hl]; simp
    have hkl := (hs.keys k (by omega)).1.2
    have h0 := hs.kids (k + 1) (by rw [(hs.ofNot hl).2.2]; omega)
    have hd1 := (hs.ofNot hl).2.2
    have hb := h0.1
    have hb2 := h0.2
    rw [rdAt, Nd.rdAt_not hs hl k (by omega)]
    obtain ⟨P, hPP⟩ : ∃ P, P = (n.parts k).flatten := ⟨_, rfl⟩
    obtain ⟨key, hkey⟩ : ∃ x, x = n.keys.getD k [] := ⟨_, rfl⟩
    obtain ⟨x, hx⟩ : ∃ x, x = n.kids.getD (k + 1) 0 := ⟨_, rfl⟩
    rw [hP] at he
    rw [hP, ← take_more n.keys [] (by omega), ← take_more n.kids 0 (k := k + 1) (by omega)]
    rw [← hPP, ← hkey, ← hx] at he
    rw [← hPP, ← hkey, ← hx]
    rw [← hkey] at hkl
    rw [← hx] at hb hb2
    have g1 : getN n.bytes P.length 1 = key.length := by
      rw [he]
      have := getN_at P (key ++ be 2 x.toNat ++ rest) 1 key.length (by omega)
      simpa using this
    have g2 : cutT n.bytes (P.length + 1) key.length = key := by
      rw [he]
      have := cutT_at (P ++ be 1 key.length) key (be 2 x.toNat ++ rest)
      simpa [be_length] using this
    have g3 : getN n.bytes (P.length + 1 + key.length) 2 = x.toNat := by
      rw [he]
      have := getN_at (P ++ be 1 key.length ++ key) rest 2 x.toNat (by omega)
      simpa [be_length, Nat.add_assoc] using this
    rw [if_neg (by decide)]
    dsimp only
    rw [g1, g2, g3]
    have e : ((x.toNat : Nat) : Int) = x := by omega
    simp [be_length, e]
    omega
/-- A node that may be written. -/
structure Nd.Fit (n : Nd) : Prop where
  snd : n.Snd
  few : n.keys.length ≤ 255
  fit : n.size ≤ 232
theorem Nd.count_read {n : Nd} (h : n.keys.length ≤ 255) : getN n.bytes 0 1 = n.keys.length := by
  obtain ⟨rest, he⟩ := n.bytes_pre (k := 0) (Nat.zero_le _)
  rw [he]
  have := getN_at [] ((if n.leaf then [] else [be 2 (n.kids.getD 0 0).toNat]).flatten ++ rest) 1 n.keys.length (by omega)
  simpa [Nd.parts, Nd.head] using this
theorem Nd.ext' {a b : Nd} (h1 : a.leaf = b.leaf) (h2 : a.keys = b.keys) (h3 : a.vals = b.vals) (h4 : a.kids = b.kids) : a = b := by
  cases a; cases b; simp at *; exact ⟨h1, h2, h3, h4⟩
/-- What is read of a node's bytes is that node. -/
theorem Nd.read_back {n : Nd} (h : n.Fit) : (rdAt n.leaf n.bytes (getN n.bytes 0 1)).1 = n := by
  rw [n.count_read h.few]
  cases hl : n.leaf
  · rw [Nd.rdAt_not h.snd hl _ (Nat.le_refl _)]
    have h1 := h.snd.ofNot hl
    refine Nd.ext' hl.symm (List.take_length ..) (List.eq_nil_of_length_eq_zero h1.1).symm ?_
    show n.kids.take (n.keys.length + 1) = n.kids
    rw [← h1.2.2]; exact List.take_length ..
  · rw [Nd.rdAt_leaf h.snd hl _ (Nat.le_refl _)]
    have h1 := h.snd.ofLeaf hl
    refine Nd.ext' hl.symm (List.take_length ..) ?_ (List.eq_nil_of_length_eq_zero h1.1).symm
    show n.vals.take n.keys.length = n.vals
    rw [← h1.2]; exact List.take_length ..
end Go.Proofs.Ytceefoopehoalaa
