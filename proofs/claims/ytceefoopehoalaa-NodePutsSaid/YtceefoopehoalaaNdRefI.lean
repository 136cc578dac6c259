/-
  What the document's Decode of layer 7 reads, as data; Decode at work.
-/
import Derived.Test.YtceefoopehoalaaNdRefH
import Derived.Test.YtceefoopehoalaaNdConcat
namespace Go.Proofs.Ytceefoopehoalaa
open Go.RowKit
/-- What is read of k cells, and the place behind it; below 0: they are not there. -/
def refAt (leaf : Bool) (b : List UInt8) : Nat → Nd × Int
  | 0 => if leaf then (⟨true, [], [], []⟩, 1) else (⟨false, [], [], [(rkd b 1).1]⟩, (rkd b 1).2)
  | k + 1 =>
    let r := refAt leaf b k
    let s := rtx b r.2
    if leaf then (⟨true, r.1.keys ++ [s.1], r.1.vals ++ [(rtx b s.2).1], r.1.kids⟩, (rtx b s.2).2)
    else (⟨false, r.1.keys ++ [s.1], r.1.vals, r.1.kids ++ [(rkd b s.2).1]⟩, (rkd b s.2).2)
theorem rtx_le (b : List UInt8) (at_ : Int) : -1 ≤ (rtx b at_).2 ∧ (rtx b at_).2 ≤ b.length ∧ (rtx b at_).1.length ≤ 255 := by
  unfold rtx
  split
  · rename_i h
    have := getN_byte b at_.toNat
    refine ⟨by dsimp only; omega, by dsimp only; omega, ?_⟩
    dsimp only
    unfold cutT
    split <;> simp <;> omega
  · exact ⟨by simp, by simp, by simp⟩
theorem rkd_le (b : List UInt8) (at_ : Int) : -1 ≤ (rkd b at_).2 ∧ (rkd b at_).2 ≤ b.length := by
  unfold rkd
  split
  · rename_i h
    exact ⟨by dsimp only; omega, by dsimp only; omega⟩
  · exact ⟨by simp, by simp⟩
theorem refAt_le (leaf : Bool) (b : List UInt8) (h : 1 ≤ b.length) : ∀ k, -1 ≤ (refAt leaf b k).2 ∧ (refAt leaf b k).2 ≤ b.length ∧ (refAt leaf b k).1.leaf = leaf ∧ (refAt leaf b k).1.keys.length = k ∧ (refAt leaf b k).1.vals.length ≤ k ∧ (refAt leaf b k).1.kids.length ≤ k + 1 ∧ ∀ l ∈ (refAt leaf b k).1.keys, l.length ≤ 255
  | 0 => by
    have := rkd_le b 1
    unfold refAt
    cases leaf <;> simp <;> omega
  | k + 1 => by
    obtain ⟨h1, h2, h3, h4, h5, h6, h7⟩ := refAt_le leaf b h k
    have g1 := rtx_le b (refAt leaf b k).2
    have g2 := rtx_le b (rtx b (refAt leaf b k).2).2
    have g3 := rkd_le b (rtx b (refAt leaf b k).2).2
    unfold refAt
    cases leaf
    · rw [if_neg (by decide)]
      refine ⟨g3.1, g3.2, rfl, by simp [h4], by dsimp only; omega, by simp [h6], fun l hl => ?_⟩
      rcases List.mem_append.1 hl with hl | hl
      · exact h7 l hl
      · rw [List.mem_singleton] at hl; subst hl; exact g1.2.2
    · rw [if_pos rfl]
      refine ⟨g2.1, g2.2.1, rfl, by simp [h4], by simp; omega, by dsimp only; omega, fun l hl => ?_⟩
      rcases List.mem_append.1 hl with hl | hl
      · exact h7 l hl
      · rw [List.mem_singleton] at hl; subst hl; exact g1.2.2
theorem rtx_ok {b : List UInt8} {k : Nat} (h : k + 1 + getN b k 1 ≤ b.length) : rtx b (k : Int) = (cutT b (k + 1) (getN b k 1), ((k + 1 + getN b k 1 : Nat) : Int)) := by
  unfold rtx
  rw [if_pos ⟨by omega, by rw [Int.toNat_natCast]; omega, by rw [Int.toNat_natCast]; exact h⟩, Int.toNat_natCast]
theorem rkd_ok {b : List UInt8} {k : Nat} (h : k + 2 ≤ b.length) : rkd b (k : Int) = ((getN b k 2 : Int), ((k + 2 : Nat) : Int)) := by
  unfold rkd
  rw [if_pos ⟨by omega, by rw [Int.toNat_natCast]; exact h⟩, Int.toNat_natCast]
theorem Nd.pre_le (n : Nd) {k : Nat} (h : k ≤ n.keys.length) : (n.parts k).flatten.length ≤ n.bytes.length := by
  obtain ⟨rest, e⟩ := n.bytes_pre h
  rw [e, List.length_append]; omega
/-- Of a node's bytes both read the same. -/
theorem Nd.refAt_rdAt {n : Nd} (hs : n.Snd) : ∀ k, k ≤ n.keys.length → refAt n.leaf n.bytes k = ((rdAt n.leaf n.bytes k).1, ((rdAt n.leaf n.bytes k).2 : Int))
  | 0, _ => by
    have h0 := n.pre_le (k := 0) (Nat.zero_le _)
    cases hl : n.leaf
    · have h1 : (n.parts 0).flatten.length = 3 := by simp [Nd.parts, Nd.head, hl, be_length]
      have h2 : rkd n.bytes 1 = ((getN n.bytes 1 2 : Int), 3) := by
        have := rkd_ok (b := n.bytes) (k := 1) (by omega)
        simpa using this
      simp [refAt, rdAt, h2]
    · simp [refAt, rdAt]
  | k + 1, hk => by
    have ih := Nd.refAt_rdAt hs k (by omega)
    have h1 := n.pre_le hk
    cases hl : n.leaf
    · rw [hl] at ih
      have e := Nd.rdAt_not hs hl k (by omega)
      have e1 := Nd.rdAt_not hs hl (k + 1) hk
      have e2 : (rdAt false n.bytes (k + 1)).2 = (rdAt false n.bytes k).2 + 1 + getN n.bytes (rdAt false n.bytes k).2 1 + 2 := rfl
      rw [e1] at e2
      dsimp only at e2
      have g1 := rtx_ok (b := n.bytes) (k := (rdAt false n.bytes k).2) (by omega)
      have g2 := rkd_ok (b := n.bytes) (k := (rdAt false n.bytes k).2 + 1 + getN n.bytes (rdAt false n.bytes k).2 1) (by omega)
      unfold refAt rdAt
      rw [if_neg (by decide), if_neg (by decide), ih]
      dsimp only
      rw [g1]
      dsimp only
      rw [g2]
    · rw [hl] at ih
      have e := Nd.rdAt_leaf hs hl k (by omega)
      have e1 := Nd.rdAt_leaf hs hl (k + 1) hk
      have e2 : (rdAt true n.bytes (k + 1)).2 = (rdAt true n.bytes k).2 + 1 + getN n.bytes (rdAt true n.bytes k).2 1 + 1 + getN n.bytes ((rdAt true n.bytes k).2 + 1 + getN n.bytes (rdAt true n.bytes k).2 1) 1 := rfl
      rw [e1] at e2
      dsimp only at e2
      have g1 := rtx_ok (b := n.bytes) (k := (rdAt true n.bytes k).2) (by omega)
      have g2 := rtx_ok (b := n.bytes) (k := (rdAt true n.bytes k).2 + 1 + getN n.bytes (rdAt true n.bytes k).2 1) (by omega)
      unfold refAt rdAt
      rw [if_pos rfl, if_pos rfl, ih]
      dsimp only
      rw [g1]
      dsimp only
      rw [g2]
/-- What the document's Decode reads of a node's bytes: the node, up to their end. -/
theorem Nd.ref_back {n : Nd} (h : n.Fit) : refAt n.leaf n.bytes (getN n.bytes 0 1) = (n, (n.bytes.length : Int)) := by
  have hb := n.read_back h
  have hc := n.count_read h.few
  rw [hc] at hb ⊢
  rw [Nd.refAt_rdAt h.snd _ (Nat.le_refl _), hb]
  congr 2
  cases hl : n.leaf
  · rw [Nd.rdAt_not h.snd hl _ (Nat.le_refl _)]; rfl
  · rw [Nd.rdAt_leaf h.snd hl _ (Nat.le_refl _)]; rfl
/-- Decode at work: its node, and where it is handed back. -/
structure RfW (w0 w : World) (lf : Bool) (tK tV tD uK uV uD : Value) (ks vs : List (List UInt8)) (ds : List Int) : Prop where
  nm : NdMk w 0 (w0.heap.size + 1 + 1) (w0.heap.size + 1) lf tK tV tD uK uV uD ks vs ds
  out : w.heap[w0.heap.size]? = some (.cells #[.bool false, .slice none 0 0, .slice none 0 0, .slice none 0 0] 27 (0, 0))
  below : Below w0.heap.size w0 w
section
variable {w0 w w' : World} {lf : Bool} {tK tV tD uK uV uD u : Value} {ks vs : List (List UInt8)} {ds : List Int} {l : List UInt8}
theorem RfW.kept (h : RfW w0 w lf tK tV tD uK uV uD ks vs ds) (hb : Below w.heap.size w w') : RfW w0 w' lf tK tV tD uK uV uD ks vs ds :=
  ⟨h.nm.kept hb, (hb.block _ (by have := h.nm.le; omega)).trans h.out, up h.below hb⟩
theorem RfW.grew (h : RfW w0 w lf tK tV tD uK uV uD ks vs ds) (hb : Below (w0.heap.size + 1 + 1) w w') {uK' uV' uD' : Value} {ks' vs' : List (List UInt8)} {ds' : List Int} (hn : NdMk w' 0 (w0.heap.size + 1 + 1) (w0.heap.size + 1) lf tK tV tD uK' uV' uD' ks' vs' ds') : RfW w0 w' lf tK tV tD uK' uV' uD' ks' vs' ds' :=
  ⟨hn, (hb.block _ (by omega)).trans h.out, h.below.trans (hb.mono (by omega))⟩
theorem RfW.keyed (h : RfW w0 w lf tK tV tD uK uV uD ks vs ds) (hu : Txt w 0 (w0.heap.size + 1 + 1) u l) (hs : ks.length ≤ 100000) :
    ∃ A n c w2, (Builtin.append_ #[24, 24] 24 #[uK, .slice (some ⟨w.heap.size, 0, none⟩) 1 1]).run Try.prog (w.alloc (.cells #[u] 22)) = .ok (.slice A n c) w2 ∧ RfW w0 w2 lf tK tV tD (.slice A n c) uV uD (ks ++ [l]) vs ds := by
  obtain ⟨A, n, c, w2, hr, hm, hb⟩ := h.nm.appK1 hu hs
  exact ⟨A, n, c, w2, hr, h.grew hb hm⟩
theorem RfW.valed (h : RfW w0 w lf tK tV tD uK uV uD ks vs ds) (hu : Txt w 0 (w0.heap.size + 1 + 1) u l) (hs : vs.length ≤ 100000) :
    ∃ A n c w2, (Builtin.append_ #[24, 24] 24 #[uV, .slice (some ⟨w.heap.size, 0, none⟩) 1 1]).run Try.prog (w.alloc (.cells #[u] 22)) = .ok (.slice A n c) w2 ∧ RfW w0 w2 lf tK tV tD uK (.slice A n c) uD ks (vs ++ [l]) ds := by
  obtain ⟨A, n, c, w2, hr, hm, hb⟩ := h.nm.appV1 hu hs
  exact ⟨A, n, c, w2, hr, h.grew hb hm⟩
theorem RfW.kidded (h : RfW w0 w lf tK tV tD uK uV uD ks vs ds) (i : Int) (hs : ds.length ≤ 100000) :
    ∃ A n c w2, (Builtin.append_ #[25, 25] 25 #[uD, .slice (some ⟨w.heap.size, 0, none⟩) 1 1]).run Try.prog (w.alloc (.cells #[.int .i64 i] 3)) = .ok (.slice A n c) w2 ∧ RfW w0 w2 lf tK tV tD uK uV (.slice A n c) ks vs (ds ++ [i]) := by
  obtain ⟨A, n, c, w2, hr, hm, hb⟩ := h.nm.appD1 i hs
  exact ⟨A, n, c, w2, hr, h.grew hb hm⟩
theorem RfW.set_ (h : RfW w0 w lf tK tV tD uK uV uD ks vs ds) {j : Nat} {x tK' tV' tD' : Value} (hm : NdMk (w.setCell ⟨w0.heap.size + 1, j, none⟩ x) 0 (w0.heap.size + 1 + 1) (w0.heap.size + 1) lf tK' tV' tD' uK uV uD ks vs ds) :
    RfW w0 (w.setCell ⟨w0.heap.size + 1, j, none⟩ x) lf tK' tV' tD' uK uV uD ks vs ds :=
  ⟨hm, (heap_setCell_other w _ _ x (show w0.heap.size ≠ w0.heap.size + 1 by omega)).trans h.out, h.below.setCell (p := ⟨w0.heap.size + 1, j, none⟩) (by show w0.heap.size ≤ w0.heap.size + 1; omega) x⟩
theorem RfW.setK (h : RfW w0 w lf tK tV tD uK uV uD ks vs ds) : RfW w0 (w.setCell ⟨w0.heap.size + 1, 1, none⟩ uK) lf uK tV tD uK uV uD ks vs ds := h.set_ h.nm.setK
theorem RfW.setV (h : RfW w0 w lf tK tV tD uK uV uD ks vs ds) : RfW w0 (w.setCell ⟨w0.heap.size + 1, 2, none⟩ uV) lf tK uV tD uK uV uD ks vs ds := h.set_ h.nm.setV
theorem RfW.setD (h : RfW w0 w lf tK tV tD uK uV uD ks vs ds) : RfW w0 (w.setCell ⟨w0.heap.size + 1, 3, none⟩ uD) lf tK tV uD uK uV uD ks vs ds := h.set_ h.nm.setD
theorem RfW.start : RfW w0 ((w0.alloc (.cells #[.bool false, .slice none 0 0, .slice none 0 0, .slice none 0 0] 27)).alloc (.cells #[.bool lf, .slice none 0 0, .slice none 0 0, .slice none 0 0] 27)) lf (.slice none 0 0) (.slice none 0 0) (.slice none 0 0) (.slice none 0 0) (.slice none 0 0) (.slice none 0 0) [] [] [] := by
  have e1 : (w0.alloc (.cells #[.bool false, .slice none 0 0, .slice none 0 0, .slice none 0 0] 27)).heap.size = w0.heap.size + 1 := by simp
  refine ⟨⟨?_, OwnT.nil _ _ _, OwnT.nil _ _ _, Mine.nil _ _ _, (fun k h => by cases h), by omega, by omega, by simp⟩, ?_, ?_⟩
  · rw [← e1]
    exact heap_alloc_last _ _
  · rw [heap_alloc_old _ _ (by rw [e1]; omega)]
    exact heap_alloc_last _ _
  · exact ((Below.refl _ _).alloc (Nat.le_refl _) _).alloc (by rw [e1]; omega) _
end
end Go.Proofs.Ytceefoopehoalaa
