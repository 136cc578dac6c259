/-
  Put and Delete of package node at work.
-/
import Derived.Test.YtceefoopehoalaaNdPutM
import Derived.Test.YtceefoopehoalaaNdSplitA
import Derived.Test.YtceefoopehoalaaNdCopyAs
import Derived.Test.YtceefoopehoalaaNdV
namespace Go.Proofs.Ytceefoopehoalaa
open Go.RowKit
/-- The node in its block, and where the answer comes. -/
structure PtW (w0 w : World) (lf : Bool) (tK tV tD : Value) : Prop where
  top : w.heap[w0.heap.size]? = some (.cells #[.bool lf, tK, tV, tD] 27 (0, 0))
  out : w.heap[w0.heap.size + 1]? = some (.cells #[.bool false, .slice none 0 0, .slice none 0 0, .slice none 0 0] 27 (0, 0))
  below : Below w0.heap.size w0 w
section
variable {w0 w w' : World} {lf : Bool} {tK tV tD v kv a b : Value} {l r : List (List UInt8)} {key : List UInt8} {n : Nd}
theorem PtW.lt (h : PtW w0 w lf tK tV tD) : w0.heap.size + 1 < w.heap.size := (Array.getElem?_eq_some_iff.1 h.out).1
theorem PtW.kept (h : PtW w0 w lf tK tV tD) (hb : Below w.heap.size w w') : PtW w0 w' lf tK tV tD :=
  ⟨(hb.block _ (by have := h.lt; omega)).trans h.top, (hb.block _ h.lt).trans h.out, up h.below hb⟩
theorem PtW.box (h : PtW w0 w lf tK tV tD) : NdBox w w0.heap.size lf tK tV tD := box_of_top h.top
theorem PtW.start : PtW w0 ((w0.alloc (.cells #[.bool lf, tK, tV, tD] 27)).alloc (.cells #[.bool false, .slice none 0 0, .slice none 0 0, .slice none 0 0] 27)) lf tK tV tD := by
  obtain ⟨wa, ha⟩ : ∃ x, x = w0.alloc (.cells #[.bool lf, tK, tV, tD] 27) := ⟨_, rfl⟩
  have e1 : wa.heap.size = w0.heap.size + 1 := by rw [ha]; simp
  have ht : wa.heap[w0.heap.size]? = some (.cells #[.bool lf, tK, tV, tD] 27 (0, 0)) := by rw [ha]; exact heap_alloc_last _ _
  have l0 : Below w0.heap.size w0 wa := by rw [ha]; exact (Below.refl _ _).alloc (Nat.le_refl _) _
  have l2 := (Below.refl wa.heap.size wa).alloc (Nat.le_refl _) (.cells #[.bool false, .slice none 0 0, .slice none 0 0, .slice none 0 0] 27)
  rw [← ha]
  refine ⟨(l2.block _ (by omega)).trans ht, ?_, up l0 l2⟩
  rw [← e1]
  exact heap_alloc_last _ _
theorem PtW.setK (h : PtW w0 w lf tK tV tD) (v : Value) : PtW w0 (w.setCell ⟨w0.heap.size, 1, none⟩ v) lf v tV tD :=
  ⟨heap_setCell_same w w0.heap.size 1 _ _ v h.top, (heap_setCell_other w _ _ v (show w0.heap.size + 1 ≠ w0.heap.size by omega)).trans h.out, h.below.trans ((Below.refl _ _).setCell (p := ⟨w0.heap.size, 1, none⟩) (Nat.le_refl _) v)⟩
theorem PtW.setV (h : PtW w0 w lf tK tV tD) (v : Value) : PtW w0 (w.setCell ⟨w0.heap.size, 2, none⟩ v) lf tK v tD :=
  ⟨heap_setCell_same w w0.heap.size 2 _ _ v h.top, (heap_setCell_other w _ _ v (show w0.heap.size + 1 ≠ w0.heap.size by omega)).trans h.out, h.below.trans ((Below.refl _ _).setCell (p := ⟨w0.heap.size, 2, none⟩) (Nat.le_refl _) v)⟩
theorem PtW.rowSet (h : OwnT w w0.heap.size (w0.heap.size + 2) v l) (j : Nat) (u : Value) : OwnT (w.setCell ⟨w0.heap.size, j, none⟩ u) w0.heap.size (w0.heap.size + 2) v l :=
  h.keep (Fr.set (Nat.le_refl _) (by omega) j u) (RowB.none _ _) (by omega) (fun _ _ e => by cases e)
theorem PtW.rowKept (h : OwnT w w0.heap.size (w0.heap.size + 2) v l) (hb : Below w.heap.size w w') : OwnT w' w0.heap.size (w0.heap.size + 2) v l :=
  h.keep (Fr.below hb) (RowB.none _ _) (by omega) (fun _ _ e => by cases e)
/-- Two rows, one behind the other. -/
theorem PtW.cat (h : PtW w0 w lf tK tV tD) (ha : RdAll w0 w0.heap.size a l) (hb : RdAll w0 w0.heap.size b r) (hs : l.length + r.length ≤ 1000000) :
    Calls Try.prog 40 #[.slice (some ⟨w.heap.size, 0, none⟩) 2 2] (w.alloc (.cells #[a, b] 24)) fun e w' => ∃ A n c, e = .returned (.slice A n c) ∧ PtW w0 w' lf tK tV tD ∧ OwnT w' w0.heap.size (w0.heap.size + 2) (.slice A n c) (l ++ r) ∧ Below w.heap.size w w' := by
  have hsz := h.below.size
  have hr := RdRowsT.lit2 (base := w0.heap.size + 2) (by omega) w 24 ((ha.below h.below).rdT (base := w0.heap.size + 2) (Nat.le_refl _) hsz) ((hb.below h.below).rdT (base := w0.heap.size + 2) (Nat.le_refl _) hsz)
  have hba : Below w.heap.size w (w.alloc (.cells #[a, b] 24)) := (Below.refl _ _).alloc (Nat.le_refl _) _
  refine (concatT_any _ 2 2 _ _ _ _ hr (by have := h.lt; simp; omega) (by omega) (by omega) (by simpa using hs)).mono ?_
  rintro e w' ⟨v, rfl, ho, hb⟩
  rw [show [l, r].flatten = l ++ r by simp] at ho
  obtain ⟨ws, hm, _⟩ := id ho
  obtain ⟨A, c, rfl⟩ := hm.form
  exact ⟨A, _, c, rfl, (h.kept hba).kept hb, ho, up hba hb⟩
/-- Two rows, a text between them. -/
theorem PtW.catKey (h : PtW w0 w lf tK tV tD) (ha : RdAll w0 w0.heap.size a l) (hk : Rd w0 w0.heap.size kv (cellsB key)) (hb : RdAll w0 w0.heap.size b r) (hs : l.length + r.length ≤ 100000) :
    Calls Try.prog 40 #[.slice (some ⟨w.heap.size + 1, 0, none⟩) 3 3] ((w.alloc (.cells #[kv] 22)).alloc (.cells #[a, .slice (some ⟨w.heap.size, 0, none⟩) 1 1, b] 24)) fun e w' => ∃ A n c, e = .returned (.slice A n c) ∧ PtW w0 w' lf tK tV tD ∧ OwnT w' w0.heap.size (w0.heap.size + 2) (.slice A n c) (l ++ key :: r) ∧ Below w.heap.size w w' := by
  have hlt := h.lt
  have hl := RdT.lit1 ((hk.below h.below).txt (base := w0.heap.size + 2) (Nat.le_refl _) h.below.size) (by omega) 22
  obtain ⟨w1, hw1⟩ : ∃ x, x = w.alloc (.cells #[kv] 22) := ⟨_, rfl⟩
  have hb1 : Below w.heap.size w w1 := by rw [hw1]; exact (Below.refl _ _).alloc (Nat.le_refl _) _
  have e1 : w1.heap.size = w.heap.size + 1 := by rw [hw1]; simp
  have h1 := h.kept hb1
  rw [← hw1] at hl ⊢
  rw [← e1]
  have hsz := h1.below.size
  have hr := RdRowsT.lit3 (base := w0.heap.size + 2) (by omega) w1 24 ((ha.below h1.below).rdT (base := w0.heap.size + 2) (Nat.le_refl _) hsz) hl ((hb.below h1.below).rdT (base := w0.heap.size + 2) (Nat.le_refl _) hsz)
  have hba := (Below.refl w1.heap.size w1).alloc (Nat.le_refl _) (.cells #[a, .slice (some ⟨w.heap.size, 0, none⟩) 1 1, b] 24)
  refine (concatT_any _ 3 3 _ _ _ _ hr (by simp; omega) (by omega) (by omega) (by simp; omega)).mono ?_
  rintro e w' ⟨v, rfl, ho, hb⟩
  rw [show [l, [key], r].flatten = l ++ key :: r by simp] at ho
  obtain ⟨ws, hm, _⟩ := id ho
  obtain ⟨A, c, rfl⟩ := hm.form
  exact ⟨A, _, c, rfl, (h1.kept hba).kept hb, ho, up (up hb1 hba) hb⟩
end
/-- Whether a value may be put at a key. -/
def Nd.MayPut (n : Nd) (key val : List UInt8) : Prop := n.leaf = true ∧ n.Snd ∧ KeyOk key ∧ val.length ≤ 24
/-- Whether there is a key that may be deleted. -/
def Nd.MayDel (n : Nd) (key : List UInt8) : Prop := n.leaf = true ∧ n.Snd ∧ isN n.keys key = true
def PutOut (n' : Nd) (w : World) (e : Ending) (w' : World) : Prop := ∃ K V D, e = .returned (.tuple #[ndVal true K V D, .bool true]) ∧ NdNew w' w.heap.size K V D n' ∧ Below w.heap.size w w'
def NoOut (w : World) (e : Ending) (w' : World) : Prop := e = .returned (.tuple #[ndZero, .bool false]) ∧ Below w.heap.size w w'
set_option maxRecDepth 100000 in
set_option maxHeartbeats 2000000 in
theorem put_bad {n : Nd} {K V D kv vv : Value} {key val : List UInt8} {w : World} (hn : NdIs w w.heap.size K V D n) (hk : Rd w w.heap.size kv (cellsB key)) (hv : Rd w w.heap.size vv (cellsB val)) (hsh : n.Short 1000000) (hG : ¬ n.MayPut key val) :
    Calls Try.prog 19 #[ndVal n.leaf K V D, kv, vv] w fun e w' => NoOut w e w' := by
  obtain ⟨A1, c1, A2, c2, A3, c3, rfl, rfl, rfl⟩ := hn.form
  obtain ⟨lf, hlf⟩ : ∃ x, x = n.leaf := ⟨_, rfl⟩
  obtain ⟨a, ha⟩ : ∃ x, x = n.keys.length := ⟨_, rfl⟩
  obtain ⟨b, hb⟩ : ∃ x, x = n.vals.length := ⟨_, rfl⟩
  obtain ⟨d, hd⟩ : ∃ x, x = n.kids.length := ⟨_, rfl⟩
  have hs1 := fun (W : World) (hW : Below w.heap.size w W) => sound_any ((hn.below hW).more hW.size) (Nat.le_refl _) hsh
  obtain ⟨Ak, ck, rfl, -, -, -⟩ := hk.bytes
  obtain ⟨Av, cv, rfl, -, -, -⟩ := hv.bytes
  obtain ⟨kl, hkl⟩ : ∃ x, x = key.length := ⟨_, rfl⟩
  obtain ⟨vl, hvl⟩ : ∃ x, x = val.length := ⟨_, rfl⟩
  rw [← hkl, ← hvl]
  have hkm := fun (W : World) => keymay_any Ak kl ck W
  have hvm := fun (W : World) => valmay_any Av vl cv W
  have hG : lf = true → n.Snd → (1 ≤ kl ∧ kl ≤ 24) → ¬ vl ≤ 24 := fun h1 h2 h3 h4 => hG ⟨by rw [← hlf]; exact h1, h2, by unfold KeyOk; rw [← hkl]; exact h3, by rw [← hvl]; exact h4⟩
  rw [← ha, ← hb, ← hd, ← hlf] at hs1
  rw [← hlf, ← ha, ← hb, ← hd]
  have hst := PtW.start (w0 := w) (lf := lf) (tK := .slice A1 a c1) (tV := .slice A2 b c2) (tD := .slice A3 d c3)
  obtain ⟨x0, x1, x2, x3⟩ := hst.box
  have hc1 := hs1 _ hst.below
  have HSt := Lib.hid hst
  have HKm := Lib.hid hkm
  have HVm := Lib.hid hvm
  have HGG := Lib.hid hG
  obtain ⟨z0, z1, z2, z3, g0, g1, g2, g3⟩ := out_cells hst.out
  clear hn hst hs1 hlf ha hb hd hsh hk hv hkl hvl hkm hvm hG
  cases lf
  · have HFb := Lib.hid HSt.out.below
    clear HGG HSt
    go_enter Try.func19, Try.ntmps19
    go_wp2_with fail
    exact bodyPost_ret (v := .tuple #[ndZero, .bool false]) (by simp [results, Try.results19, go_sem, z0, z1, z2, z3]) rfl ⟨rfl, HFb.out⟩
  · clear z0 z1 z2 z3 g0 g1 g2 g3
    go_enter Try.func19, Try.ntmps19
    go_wp2_with fail
    refine hc1.mono ?_
    rintro e w1 ⟨rfl, hb1⟩
    have HS1 := Lib.hid (HSt.out.kept hb1)
    clear x0 x1 x2 x3 hc1 hb1 HSt
    cases h1 : sndB n
    · clear h1 HGG
      obtain ⟨y0, y1, y2, y3, f0, f1, f2, f3⟩ := out_cells HS1.out.out
      obtain ⟨W, hW⟩ : ∃ W, W = store4 w1 (w.heap.size + 1) false (.slice none 0 0) (.slice none 0 0) (.slice none 0 0) := ⟨_, rfl⟩
      have hbox := box_of_top (store4_top (lf := false) (K := .slice none 0 0) (V := .slice none 0 0) (D := .slice none 0 0) HS1.out.out)
      have hfb := HS1.out.below.trans (store4_below (w := w1) (lf := false) (K := .slice none 0 0) (V := .slice none 0 0) (D := .slice none 0 0) (show w.heap.size ≤ w.heap.size + 1 by omega))
      rw [← hW] at hbox hfb
      obtain ⟨q0, q1, q2, q3⟩ := hbox
      have HFb := Lib.hid hfb
      have HWW := Lib.hid hW
      clear hfb hW
      go_wp2_with fail
      have hW := HWW.out
      unfold store4 at hW
      rw [← hW]
      exact bodyPost_ret (v := .tuple #[ndZero, .bool false]) (by simp [results, Try.results19, go_sem, q0, q1, q2, q3]) rfl ⟨rfl, HFb.out⟩
    · have hG := HGG.out (by trivial) (sndB_iff.1 h1)
      have HG := Lib.hid hG
      have hkc := HKm.out w1
      clear h1 HGG hG
      go_wp2_with fail
      refine hkc.mono ?_
      rintro e w2 ⟨rfl, rfl⟩
      clear hkc
      by_cases hko : 1 ≤ kl ∧ kl ≤ 24
      · have hvo : ¬ vl ≤ 24 := HG.out hko
        rw [decide_eq_true hko]
        have hvc := HVm.out w1
        rw [decide_eq_false hvo] at hvc
        clear hko hvo HG
        go_wp2_with fail
        refine hvc.mono ?_
        rintro e w3 ⟨rfl, rfl⟩
        clear hvc
        obtain ⟨y0, y1, y2, y3, f0, f1, f2, f3⟩ := out_cells HS1.out.out
        obtain ⟨W, hW⟩ : ∃ W, W = store4 w1 (w.heap.size + 1) false (.slice none 0 0) (.slice none 0 0) (.slice none 0 0) := ⟨_, rfl⟩
        have hbox := box_of_top (store4_top (lf := false) (K := .slice none 0 0) (V := .slice none 0 0) (D := .slice none 0 0) HS1.out.out)
        have hfb := HS1.out.below.trans (store4_below (w := w1) (lf := false) (K := .slice none 0 0) (V := .slice none 0 0) (D := .slice none 0 0) (show w.heap.size ≤ w.heap.size + 1 by omega))
        rw [← hW] at hbox hfb
        obtain ⟨q0, q1, q2, q3⟩ := hbox
        have HFb := Lib.hid hfb
        have HWW := Lib.hid hW
        clear hfb hW
        go_wp2_with fail
        have hW := HWW.out
        unfold store4 at hW
        rw [← hW]
        exact bodyPost_ret (v := .tuple #[ndZero, .bool false]) (by simp [results, Try.results19, go_sem, q0, q1, q2, q3]) rfl ⟨rfl, HFb.out⟩
      · rw [decide_eq_false hko]
        clear hko HG
        obtain ⟨y0, y1, y2, y3, f0, f1, f2, f3⟩ := out_cells HS1.out.out
        obtain ⟨W, hW⟩ : ∃ W, W = store4 w1 (w.heap.size + 1) false (.slice none 0 0) (.slice none 0 0) (.slice none 0 0) := ⟨_, rfl⟩
        have hbox := box_of_top (store4_top (lf := false) (K := .slice none 0 0) (V := .slice none 0 0) (D := .slice none 0 0) HS1.out.out)
        have hfb := HS1.out.below.trans (store4_below (w := w1) (lf := false) (K := .slice none 0 0) (V := .slice none 0 0) (D := .slice none 0 0) (show w.heap.size ≤ w.heap.size + 1 by omega))
        rw [← hW] at hbox hfb
        obtain ⟨q0, q1, q2, q3⟩ := hbox
        have HFb := Lib.hid hfb
        have HWW := Lib.hid hW
        clear hfb hW
        go_wp2_with fail
        have hW := HWW.out
        unfold store4 at hW
        rw [← hW]
        exact bodyPost_ret (v := .tuple #[ndZero, .bool false]) (by simp [results, Try.results19, go_sem, q0, q1, q2, q3]) rfl ⟨rfl, HFb.out⟩
set_option maxRecDepth 100000 in
set_option maxHeartbeats 2000000 in
theorem del_bad {n : Nd} {K V D kv : Value} {key : List UInt8} {w : World} (hn : NdIs w w.heap.size K V D n) (hk : Rd w w.heap.size kv (cellsB key)) (hsh : n.Short 1000000) (hG : ¬ n.MayDel key) :
    Calls Try.prog 20 #[ndVal n.leaf K V D, kv] w fun e w' => NoOut w e w' := by
  obtain ⟨A1, c1, A2, c2, A3, c3, rfl, rfl, rfl⟩ := hn.form
  obtain ⟨lf, hlf⟩ : ∃ x, x = n.leaf := ⟨_, rfl⟩
  obtain ⟨a, ha⟩ : ∃ x, x = n.keys.length := ⟨_, rfl⟩
  obtain ⟨b, hb⟩ : ∃ x, x = n.vals.length := ⟨_, rfl⟩
  obtain ⟨d, hd⟩ : ∃ x, x = n.kids.length := ⟨_, rfl⟩
  have hs1 := fun (W : World) (hW : Below w.heap.size w W) => sound_any ((hn.below hW).more hW.size) (Nat.le_refl _) hsh
  have hfi := fun (W : World) (hW : Below w.heap.size w W) => find_any ((hn.below hW).more hW.size) (Nat.le_refl _) ((hk.below hW).more hW.size) (Nat.le_refl _) hsh.1
  obtain ⟨Ak, ck, rfl, -, -, -⟩ := hk.bytes
  obtain ⟨kl, hkl⟩ : ∃ x, x = key.length := ⟨_, rfl⟩
  obtain ⟨p, hp⟩ : ∃ x, x = belowN n.keys key n.keys.length := ⟨_, rfl⟩
  obtain ⟨th, hth⟩ : ∃ x, x = hasN n.keys key n.keys.length := ⟨_, rfl⟩
  have hp2 := belowN_le n.keys key n.keys.length
  have hsl := hsh.1
  rw [← hp, ← hkl, ← hth, ← ha, ← hb, ← hd, ← hlf] at hfi
  rw [← hp] at hp2
  rw [← hkl]
  have hG : lf = true → n.Snd → th = false := fun h1 h2 => by
    rw [← Bool.not_eq_true]
    exact fun h3 => hG ⟨by rw [← hlf]; exact h1, h2, by unfold isN; rw [← hth]; exact h3⟩
  rw [← ha, ← hb, ← hd, ← hlf] at hs1
  rw [← hlf, ← ha, ← hb, ← hd]
  have hst := PtW.start (w0 := w) (lf := lf) (tK := .slice A1 a c1) (tV := .slice A2 b c2) (tD := .slice A3 d c3)
  obtain ⟨x0, x1, x2, x3⟩ := hst.box
  have hc1 := hs1 _ hst.below
  have HSt := Lib.hid hst
  have HFi := Lib.hid hfi
  have HGG := Lib.hid hG
  have hp3 : p ≤ 1000000 := by omega
  obtain ⟨z0, z1, z2, z3, g0, g1, g2, g3⟩ := out_cells hst.out
  clear hn hst hs1 hlf ha hb hd hsh hk hkl hfi hG hp hth hp2 hsl
  cases lf
  · have HFb := Lib.hid HSt.out.below
    clear HGG HSt
    go_enter Try.func20, Try.ntmps20
    go_wp2_with fail
    exact bodyPost_ret (v := .tuple #[ndZero, .bool false]) (by simp [results, Try.results20, go_sem, z0, z1, z2, z3]) rfl ⟨rfl, HFb.out⟩
  · clear z0 z1 z2 z3 g0 g1 g2 g3
    go_enter Try.func20, Try.ntmps20
    go_wp2_with fail
    refine hc1.mono ?_
    rintro e w1 ⟨rfl, hb1⟩
    have HS1 := Lib.hid (HSt.out.kept hb1)
    clear x0 x1 x2 x3 hc1 hb1 HSt
    cases h1 : sndB n
    · clear h1 HGG
      obtain ⟨y0, y1, y2, y3, f0, f1, f2, f3⟩ := out_cells HS1.out.out
      obtain ⟨W, hW⟩ : ∃ W, W = store4 w1 (w.heap.size + 1) false (.slice none 0 0) (.slice none 0 0) (.slice none 0 0) := ⟨_, rfl⟩
      have hbox := box_of_top (store4_top (lf := false) (K := .slice none 0 0) (V := .slice none 0 0) (D := .slice none 0 0) HS1.out.out)
      have hfb := HS1.out.below.trans (store4_below (w := w1) (lf := false) (K := .slice none 0 0) (V := .slice none 0 0) (D := .slice none 0 0) (show w.heap.size ≤ w.heap.size + 1 by omega))
      rw [← hW] at hbox hfb
      obtain ⟨q0, q1, q2, q3⟩ := hbox
      have HFb := Lib.hid hfb
      have HWW := Lib.hid hW
      clear hfb hW
      go_wp2_with fail
      have hW := HWW.out
      unfold store4 at hW
      rw [← hW]
      exact bodyPost_ret (v := .tuple #[ndZero, .bool false]) (by simp [results, Try.results20, go_sem, q0, q1, q2, q3]) rfl ⟨rfl, HFb.out⟩
    · have hth := HGG.out (by trivial) (sndB_iff.1 h1)
      subst hth
      have hfc := HFi.out w1 HS1.out.below
      obtain ⟨x0, x1, x2, x3⟩ := HS1.out.box
      clear h1 HGG HFi
      go_wp2_with fail
      refine hfc.mono ?_
      rintro e w2 ⟨rfl, hb2⟩
      have HS2 := Lib.hid (HS1.out.kept hb2)
      clear hfc hb2 x0 x1 x2 x3 HS1
      obtain ⟨y0, y1, y2, y3, f0, f1, f2, f3⟩ := out_cells HS2.out.out
      obtain ⟨W, hW⟩ : ∃ W, W = store4 w2 (w.heap.size + 1) false (.slice none 0 0) (.slice none 0 0) (.slice none 0 0) := ⟨_, rfl⟩
      have hbox := box_of_top (store4_top (lf := false) (K := .slice none 0 0) (V := .slice none 0 0) (D := .slice none 0 0) HS2.out.out)
      have hfb := HS2.out.below.trans (store4_below (w := w2) (lf := false) (K := .slice none 0 0) (V := .slice none 0 0) (D := .slice none 0 0) (show w.heap.size ≤ w.heap.size + 1 by omega))
      rw [← hW] at hbox hfb
      obtain ⟨q0, q1, q2, q3⟩ := hbox
      have HFb := Lib.hid hfb
      have HWW := Lib.hid hW
      clear hfb hW
      go_wp2_with fail
      have hW := HWW.out
      unfold store4 at hW
      rw [← hW]
      exact bodyPost_ret (v := .tuple #[ndZero, .bool false]) (by simp [results, Try.results20, go_sem, q0, q1, q2, q3]) rfl ⟨rfl, HFb.out⟩
end Go.Proofs.Ytceefoopehoalaa
