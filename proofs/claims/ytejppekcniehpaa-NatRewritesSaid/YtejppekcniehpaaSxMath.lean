/-
  Heads of IPv6, in plain words: what stands between, what is wrong with bytes, what head they have, which bytes a head has.
-/
import Derived.Test.YtejppekcniehpaaIfMath
namespace Go.Proofs.Ytejppekcniehpaa
open Go.RowKit
/-- Whether something stands between. -/
def stands (p : UInt8) : Bool := p == 0 || p == 43 || p == 44 || p == 60
def ad6 (l : List UInt8) : Ad := ⟨true, l⟩
theorem ad6_wide {l : List UInt8} (h : l.length = 16) : (ad6 l).Wide := h
/-- What is wrong with a packet, as far as its first head tells. -/
def sxE1 (l : List UInt8) : Nat := if 2048 < l.length then 10 else if l.length < 40 then 9 else if (l.getD 0 0).toNat / 16 ≠ 6 then 12 else if l.length < 40 + num2 l 4 then 9 else if 40 + num2 l 4 < l.length then 10 else if (l.getD 7 0).toNat = 0 then 4 else 0
theorem sxE1_no {l : List UInt8} (h : sxE1 l = 0) : l.length ≤ 2048 ∧ 40 ≤ l.length ∧ (l.getD 0 0).toNat / 16 = 6 ∧ l.length = 40 + num2 l 4 ∧ (l.getD 7 0).toNat ≠ 0 := by
  unfold sxE1 at h
  repeat' split at h
  all_goals first | omega | exact ⟨by omega, by omega, by omega, by omega, by omega⟩
/-- What the first head says. -/
def sxFirst (l : List UInt8) : Hd := ⟨true, l.getD 6 0, 40, ad6 ((l.drop 8).take 16), ad6 ((l.drop 24).take 16), false, l.getD 7 0⟩
theorem sxFirst_wide {l : List UInt8} (h : 40 ≤ l.length) : (sxFirst l).Wide := ⟨ad6_wide (by simp; omega), ad6_wide (by simp; omega)⟩
/-- A head between, passed. -/
def sxSize (p : UInt8) (r : List UInt8) : Nat := if p = 44 then 8 else 8 + 8 * (r.getD 1 0).toNat
def sxBits (r : List UInt8) : Bool := decide (num2 r 2 / 8 ≠ 0 ∨ num2 r 2 % 2 = 1)
def sxNext (h : Hd) (r : List UInt8) : Hd := ⟨h.six, r.getD 0 0, h.pos + (sxSize h.proto r : Nat), h.src, h.dst, h.part || (decide (h.proto = 44) && sxBits r), h.hops⟩
theorem sxNext_wide {h : Hd} (hw : h.Wide) (r : List UInt8) : (sxNext h r).Wide := hw
def sxPassE (p : UInt8) (r : List UInt8) : Nat := if r.length < 8 ∨ r.length < sxSize p r then 9 else 0
/-- All heads between, passed: so many more may be. -/
def sxWalk : Nat → Hd → List UInt8 → Nat × Hd
  | 0, h, _ => if stands h.proto then (10, h) else (0, h)
  | k + 1, h, r => if stands h.proto then (if h.proto = 0 ∧ k < 7 then (4, h) else if sxPassE h.proto r ≠ 0 then (9, h) else sxWalk k (sxNext h r) (r.drop (sxSize h.proto r))) else (0, h)
theorem sxWalk_wide : ∀ (k : Nat) (h : Hd) (r : List UInt8), h.Wide → (sxWalk k h r).2.Wide
  | 0, h, r, hw => by unfold sxWalk; split <;> exact hw
  | k + 1, h, r, hw => by
    unfold sxWalk
    split
    · split
      · exact hw
      · split
        · exact hw
        · exact sxWalk_wide k _ _ hw
    · exact hw
theorem sxWalk_no {k : Nat} {h : Hd} {r : List UInt8} (hs : stands h.proto = false) : sxWalk k h r = (0, h) := by
  cases k <;> unfold sxWalk <;> rw [hs] <;> rfl
def sxErr (l : List UInt8) : Nat := if sxE1 l ≠ 0 then sxE1 l else (sxWalk 8 (sxFirst l) (l.drop 40)).1
def sxRead (l : List UInt8) : Hd := if sxErr l = 0 then (sxWalk 8 (sxFirst l) (l.drop 40)).2 else Hd.zero
theorem sxErr_one {l : List UInt8} (h : sxE1 l ≠ 0) : sxErr l = sxE1 l := by unfold sxErr; rw [if_pos h]
theorem sxErr_two {l : List UInt8} (h : sxE1 l = 0) : sxErr l = (sxWalk 8 (sxFirst l) (l.drop 40)).1 := by unfold sxErr; rw [if_neg (by omega)]
theorem sxRead_wide (l : List UInt8) : (sxRead l).Wide := by
  unfold sxRead
  split
  · rename_i h
    by_cases h1 : sxE1 l = 0
    · exact sxWalk_wide _ _ _ (sxFirst_wide (sxE1_no h1).2.1)
    · rw [sxErr_one h1] at h; exact absurd h h1
  · exact Hd.zero_wide
/-- Whether there may be a packet of a head; its bytes. -/
def Hd.may6 (h : Hd) : Bool := h.six && h.src.six && h.dst.six && (h.hops != 0) && !h.part && !stands h.proto
def sxHead (h : Hd) (n : Nat) : List UInt8 := [96, 0, 0, 0] ++ be 2 n ++ [h.proto, h.hops]
def sxBytes (h : Hd) (data : List UInt8) : List UInt8 := sxHead h data.length ++ (h.src.own ++ (h.dst.own ++ data))
theorem Hd.may6_parts {h : Hd} (hm : h.may6 = true) : h.six = true ∧ h.src.six = true ∧ h.dst.six = true ∧ h.hops ≠ 0 ∧ h.part = false ∧ stands h.proto = false := by
  unfold Hd.may6 at hm
  simp only [Bool.and_eq_true, Bool.not_eq_true', bne_iff_ne, ne_eq] at hm
  obtain ⟨⟨⟨⟨⟨h1, h2⟩, h3⟩, h4⟩, h5⟩, h6⟩ := hm
  exact ⟨h1, h2, h3, h4, h5, h6⟩
theorem own_six {a : Ad} (h : a.six = true) : a.own = a.b := by unfold Ad.own Ad.from; rw [h]; rfl
theorem ad6_own {a : Ad} (h : a.six = true) : ad6 a.b = a := by
  obtain ⟨s, b⟩ := a
  dsimp only at h
  subst h
  rfl
theorem sxBytes_form (h : Hd) (hm : h.may6 = true) (data : List UInt8) : sxBytes h data = [96, 0, 0, 0, UInt8.ofNat (data.length / 256), UInt8.ofNat data.length, h.proto, h.hops] ++ (h.src.b ++ (h.dst.b ++ data)) := by
  obtain ⟨_, h2, h3, _⟩ := Hd.may6_parts hm
  unfold sxBytes sxHead
  rw [own_six h2, own_six h3, be2]
  rfl
theorem sxBytes_length (h : Hd) (hw : h.Wide) (hm : h.may6 = true) (data : List UInt8) : (sxBytes h data).length = 40 + data.length := by
  have h1 : h.src.b.length = 16 := hw.1
  have h2 : h.dst.b.length = 16 := hw.2
  rw [sxBytes_form h hm]
  simp only [List.length_append, List.length_cons, List.length_nil, h1, h2]
  omega
/-- What is read of a packet that may be changed in its byte 6. -/
theorem sx_of (h : Hd) (hw : h.Wide) (hm : h.may6 = true) (data : List UInt8) (hd : data.length ≤ 2008) (p : UInt8) : sxE1 ((sxBytes h data).set 6 p) = 0 ∧ sxFirst ((sxBytes h data).set 6 p) = { h with proto := p, pos := 40 } ∧ ((sxBytes h data).set 6 p).drop 40 = data := by
  have h1 : h.src.b.length = 16 := hw.1
  have h2 : h.dst.b.length = 16 := hw.2
  have hlen := sxBytes_length h hw hm data
  have hf := sxBytes_form h hm data
  obtain ⟨g1, g2, g3, g4, g5, g6⟩ := Hd.may6_parts hm
  have hX : (sxBytes h data).set 6 p = [96, 0, 0, 0, UInt8.ofNat (data.length / 256), UInt8.ofNat data.length, p, h.hops] ++ (h.src.b ++ (h.dst.b ++ data)) := by rw [hf]; rfl
  have hL : ((sxBytes h data).set 6 p).length = 40 + data.length := by rw [List.length_set, hlen]
  refine ⟨?_, ?_, ?_⟩
  · have e4 : num2 ((sxBytes h data).set 6 p) 4 = data.length := by
      rw [hX]
      exact num2_be _ (by omega)
    have e0 : ((sxBytes h data).set 6 p).getD 0 0 = 96 := by rw [hX]; rfl
    have e7 : ((sxBytes h data).set 6 p).getD 7 0 = h.hops := by rw [hX]; rfl
    unfold sxE1
    rw [hL, e4, e0, e7, if_neg (by omega), if_neg (by omega), if_neg (by decide), if_neg (by omega), if_neg (by omega), if_neg (show ¬ h.hops.toNat = 0 from fun e => g4 (UInt8.toNat_inj.1 e))]
  · rw [hX]
    obtain ⟨s0, p0, n0, x0, y0, q0, k0⟩ := h
    dsimp only at g1 g2 g3 g5 h1 h2 ⊢
    unfold sxFirst
    have e1 : ([96, 0, 0, 0, UInt8.ofNat (data.length / 256), UInt8.ofNat data.length, p, k0] ++ (x0.b ++ (y0.b ++ data))).drop 8 = x0.b ++ (y0.b ++ data) := rfl
    have e2 : ([96, 0, 0, 0, UInt8.ofNat (data.length / 256), UInt8.ofNat data.length, p, k0] ++ (x0.b ++ (y0.b ++ data))).drop 24 = y0.b ++ data := by
      rw [show 24 = 8 + 16 by rfl, ← List.drop_drop, e1, ← h1, List.drop_left]
    rw [e1, e2, ← h1, List.take_left, h1, ← h2, List.take_left, ad6_own g2, ad6_own g3, g1, g5]
    rfl
  · rw [hX, show 40 = 8 + (16 + 16) by rfl, ← List.drop_drop, ← List.drop_drop]
    show List.drop 16 (List.drop 16 (h.src.b ++ (h.dst.b ++ data))) = data
    rw [← h1, List.drop_left, h1, ← h2, List.drop_left]
theorem set_same {l : List UInt8} {i : Nat} {x : UInt8} (h : l[i]? = some x) : l.set i x = l := by
  apply List.ext_getElem?
  intro j
  rw [List.getElem?_set]
  split
  · rename_i e; subst e; rw [h, if_pos (List.getElem?_eq_some_iff.1 h).1]
  · rfl
theorem sxBytes_six (h : Hd) (hm : h.may6 = true) (data : List UInt8) : (sxBytes h data).set 6 h.proto = sxBytes h data := set_same (by rw [sxBytes_form h hm]; rfl)
/-- Read of Write is the head, from 40 on. -/
theorem sxBack (h : Hd) (hw : h.Wide) (hm : h.may6 = true) (data : List UInt8) (hd : data.length ≤ 2008) : sxErr (sxBytes h data) = 0 ∧ sxRead (sxBytes h data) = { h with pos := 40 } := by
  obtain ⟨e1, e2, e3⟩ := sx_of h hw hm data hd h.proto
  rw [sxBytes_six h hm] at e1 e2 e3
  obtain ⟨_, _, _, _, _, g6⟩ := Hd.may6_parts hm
  have hE : sxErr (sxBytes h data) = 0 := by
    rw [sxErr_two e1, e2, sxWalk_no (h := { h with proto := h.proto, pos := 40 }) g6]
  refine ⟨hE, ?_⟩
  unfold sxRead
  rw [if_pos hE, e2, sxWalk_no (h := { h with proto := h.proto, pos := 40 }) g6]
/-- Cut off, or with bytes behind it. -/
theorem sxCut (h : Hd) (hw : h.Wide) (hm : h.may6 = true) (data : List UInt8) (hd : data.length ≤ 2008) (k : Nat) (hk : k < 40 + data.length) : sxErr ((sxBytes h data).take k) = 9 := by
  have hlen := sxBytes_length h hw hm data
  have hf := sxBytes_form h hm data
  have hT : ((sxBytes h data).take k).length = k := by rw [List.length_take, hlen]; omega
  have key : sxE1 ((sxBytes h data).take k) = 9 := by
    unfold sxE1
    by_cases h40 : k < 40
    · rw [hT, if_neg (by omega), if_pos h40]
    · have hg : ∀ j, j < 40 → ((sxBytes h data).take k).getD j 0 = (sxBytes h data).getD j 0 := fun j hj => by
        simp only [List.getD_eq_getElem?_getD, List.getElem?_take]
        rw [if_pos (by omega)]
      have h0 : ((sxBytes h data).take k).getD 0 0 = 96 := by rw [hg 0 (by omega), hf]; rfl
      have h4 : num2 ((sxBytes h data).take k) 4 = data.length := by
        unfold num2
        rw [hg 4 (by omega), hg 5 (by omega), hf]
        exact num2_be _ (by omega)
      rw [hT, h0, h4, if_neg (by omega), if_neg h40, if_neg (by decide), if_pos hk]
  rw [sxErr_one (by omega), key]
theorem sxMore (h : Hd) (hw : h.Wide) (hm : h.may6 = true) (data : List UInt8) (hd : data.length ≤ 2008) (x : UInt8) : sxErr (sxBytes h data ++ [x]) = 10 := by
  have hlen := sxBytes_length h hw hm data
  have hf := sxBytes_form h hm data
  have hT : (sxBytes h data ++ [x]).length = 41 + data.length := by simp [hlen]; omega
  have key : sxE1 (sxBytes h data ++ [x]) = 10 := by
    unfold sxE1
    by_cases hb : 2048 < 41 + data.length
    · rw [hT, if_pos hb]
    · have h0 : (sxBytes h data ++ [x]).getD 0 0 = 96 := by rw [hf]; rfl
      have h4 : num2 (sxBytes h data ++ [x]) 4 = data.length := by
        rw [hf]
        exact num2_be _ (by omega)
      rw [hT, h0, h4, if_neg hb, if_neg (by omega), if_neg (by decide), if_neg (by omega), if_pos (by omega)]
  rw [sxErr_one (by omega), key]
/-- Heads between, as the law makes them. -/
def sxExt (p s : UInt8) : List UInt8 := p :: (s % 4) :: List.replicate (6 + 8 * (s % 4).toNat) 0
theorem sxExt_length (p s : UInt8) : (sxExt p s).length = 8 + 8 * (s % 4).toNat := by simp [sxExt]; omega
def sxChain (c : UInt8) : List UInt8 → List UInt8
  | [] => []
  | [s] => sxExt c s
  | s :: t :: L => sxExt 60 s ++ sxChain c (t :: L)
def sxPre (L : List UInt8) : List UInt8 := L.flatMap (sxExt 60)
theorem sxPre_snoc (L : List UInt8) (s : UInt8) : sxPre (L ++ [s]) = sxPre L ++ sxExt 60 s := by simp [sxPre]
theorem sxChain_snoc (c : UInt8) : ∀ (L : List UInt8) (s : UInt8), sxChain c (L ++ [s]) = sxPre L ++ sxExt c s
  | [], s => rfl
  | [t], s => by simp [sxChain, sxPre]
  | t :: u :: L, s => by
    show sxExt 60 t ++ sxChain c ((u :: L) ++ [s]) = _
    rw [sxChain_snoc c (u :: L) s]
    simp [sxPre]
/-- What the law has made of the first so many. -/
def sxUpto (c : UInt8) (L : List UInt8) (i : Nat) : List UInt8 := if i < L.length then sxPre (L.take i) else sxChain c L
theorem sxUpto_zero (c : UInt8) (L : List UInt8) : sxUpto c L 0 = [] := by
  unfold sxUpto
  split
  · rfl
  · rw [List.length_eq_zero_iff.1 (by omega : L.length = 0)]; rfl
theorem sxUpto_next (c : UInt8) (L : List UInt8) (i : Nat) (h : i < L.length) : sxUpto c L (i + 1) = sxUpto c L i ++ sxExt (if i + 1 = L.length then c else 60) L[i] := by
  have ht : L.take (i + 1) = L.take i ++ [L[i]] := by rw [List.take_add_one, List.getElem?_eq_getElem h]; rfl
  unfold sxUpto
  rw [if_pos h]
  by_cases h1 : i + 1 = L.length
  · rw [if_neg (by omega), if_pos h1]
    have : L = L.take i ++ [L[i]] := by rw [← ht, h1, List.take_length]
    conv => lhs; rw [this]
    exact sxChain_snoc c _ _
  · rw [if_pos (by omega), if_neg h1, ht]
    exact sxPre_snoc _ _
theorem sxUpto_all (c : UInt8) (L : List UInt8) : sxUpto c L L.length = sxChain c L := by unfold sxUpto; rw [if_neg (by omega)]
theorem mod4_lt (s : UInt8) : (s % 4).toNat < 4 := by
  rw [UInt8.toNat_mod]
  exact Nat.mod_lt _ (by decide)
theorem sxChain_length_le (c : UInt8) : ∀ L : List UInt8, (sxChain c L).length ≤ 32 * L.length
  | [] => by simp [sxChain]
  | [s] => by
    have := mod4_lt s
    simp only [sxChain, sxExt_length, List.length_cons, List.length_nil]
    omega
  | s :: t :: L => by
    have h1 := mod4_lt s
    have h2 := sxChain_length_le c (t :: L)
    simp only [sxChain, List.length_append, sxExt_length, List.length_cons] at h2 ⊢
    omega
theorem sxPass_ext {h : Hd} (hp : h.proto = 60) (p s : UInt8) (r : List UInt8) : sxSize h.proto (sxExt p s ++ r) = (sxExt p s).length ∧ sxPassE h.proto (sxExt p s ++ r) = 0 ∧ sxNext h (sxExt p s ++ r) = { h with proto := p, pos := h.pos + ((sxExt p s).length : Nat) } := by
  have e1 : sxSize h.proto (sxExt p s ++ r) = (sxExt p s).length := by
    unfold sxSize
    rw [hp, if_neg (by decide), sxExt_length]
    rfl
  refine ⟨e1, ?_, ?_⟩
  · unfold sxPassE
    rw [e1, if_neg]
    have := sxExt_length p s
    rw [List.length_append]
    omega
  · unfold sxNext
    rw [e1, hp, decide_eq_false (by decide)]
    simp [sxExt]
/-- Heads that stand between are passed, as many as may. -/
theorem sxWalk_chain (c : UInt8) (hc : stands c = false) : ∀ (L : List UInt8) (k : Nat) (h : Hd) (r : List UInt8), h.proto = (if L = [] then c else 60) → (sxWalk k h (sxChain c L ++ r)).1 = (if k < L.length then 10 else 0) ∧ (L.length ≤ k → (sxWalk k h (sxChain c L ++ r)).2 = { h with proto := c, pos := h.pos + ((sxChain c L).length : Nat) })
  | [], k, h, r, hp => by
    rw [if_pos rfl] at hp
    rw [sxWalk_no (by rw [hp]; exact hc)]
    refine ⟨by simp, fun _ => ?_⟩
    obtain ⟨s0, p0, n0, x0, y0, q0, k0⟩ := h
    dsimp only at hp
    simp [sxChain, hp]
  | [s], k, h, r, hp => by
    rw [if_neg (by simp)] at hp
    obtain ⟨e1, e2, e3⟩ := sxPass_ext hp c s r
    cases k with
    | zero =>
      unfold sxWalk
      rw [hp]
      exact ⟨rfl, fun hk => by simp at hk⟩
    | succ k =>
      have hw : sxWalk (k + 1) h (sxChain c [s] ++ r) = (0, { h with proto := c, pos := h.pos + ((sxExt c s).length : Nat) }) := by
        show sxWalk (k + 1) h (sxExt c s ++ r) = _
        unfold sxWalk
        rw [if_pos (by rw [hp]; rfl), if_neg (by rw [hp]; intro h0; exact absurd h0.1 (by decide)), e2, if_neg (by simp), e3]
        exact sxWalk_no hc
      rw [hw]
      exact ⟨by simp, fun _ => rfl⟩
  | s :: t :: L, k, h, r, hp => by
    rw [if_neg (by simp)] at hp
    obtain ⟨e1, e2, e3⟩ := sxPass_ext hp 60 s (sxChain c (t :: L) ++ r)
    cases k with
    | zero =>
      unfold sxWalk
      rw [hp]
      exact ⟨rfl, fun hk => by simp at hk⟩
    | succ k =>
      obtain ⟨i1, i2⟩ := sxWalk_chain c hc (t :: L) k { h with proto := 60, pos := h.pos + ((sxExt 60 s).length : Nat) } r (by rw [if_neg (by simp)])
      have hw : sxWalk (k + 1) h (sxChain c (s :: t :: L) ++ r) = sxWalk k { h with proto := 60, pos := h.pos + ((sxExt 60 s).length : Nat) } (sxChain c (t :: L) ++ r) := by
        show sxWalk (k + 1) h (sxExt 60 s ++ sxChain c (t :: L) ++ r) = _
        rw [List.append_assoc]
        conv => lhs; unfold sxWalk
        rw [if_pos (by rw [hp]; rfl), if_neg (by rw [hp]; intro h0; exact absurd h0.1 (by decide)), e2, if_neg (by simp), e1, e3, List.drop_left]
      rw [hw, i1]
      refine ⟨by simp only [List.length_cons, Nat.add_lt_add_iff_right], fun hk => ?_⟩
      rw [i2 (by simpa using hk)]
      have : ((sxChain c (s :: t :: L)).length : Int) = ((sxExt 60 s).length : Nat) + ((sxChain c (t :: L)).length : Nat) := by simp [sxChain]
      rw [this]
      dsimp only
      congr 1
      omega
end Go.Proofs.Ytejppekcniehpaa
