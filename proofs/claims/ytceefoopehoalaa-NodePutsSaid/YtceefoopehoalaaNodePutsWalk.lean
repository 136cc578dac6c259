/-
  The walk of NodePuts.
-/
import Derived.Test.YtceefoopehoalaaNdPutC
import Derived.Test.YtceefoopehoalaaNdRefC
import Derived.Test.YtceefoopehoalaaNdRpC
namespace Go.Proofs.Ytceefoopehoalaa
open Go.RowKit
noncomputable def mayPutB (n : Nd) (key val : List UInt8) : Bool := @decide (n.MayPut key val) (Classical.propDecidable _)
noncomputable def mayDelB (n : Nd) (key : List UInt8) : Bool := @decide (n.MayDel key) (Classical.propDecidable _)
noncomputable def Nd.putN (n : Nd) (key val : List UInt8) : Nd := if mayPutB n key val then n.put key val else ⟨false, [], [], []⟩
noncomputable def Nd.delN (n : Nd) (key : List UInt8) : Nd := if mayDelB n key then n.del key else ⟨false, [], [], []⟩
theorem mayPutB_yes {n : Nd} {key val : List UInt8} (h : n.MayPut key val) : mayPutB n key val = true ∧ n.putN key val = n.put key val := by
  have : mayPutB n key val = true := by unfold mayPutB; exact @decide_eq_true _ (Classical.propDecidable _) h
  exact ⟨this, by unfold Nd.putN; rw [if_pos this]⟩
theorem mayPutB_no {n : Nd} {key val : List UInt8} (h : ¬ n.MayPut key val) : mayPutB n key val = false ∧ n.putN key val = ⟨false, [], [], []⟩ := by
  have : mayPutB n key val = false := by unfold mayPutB; exact @decide_eq_false _ (Classical.propDecidable _) h
  exact ⟨this, by unfold Nd.putN; rw [this]; rfl⟩
theorem mayDelB_yes {n : Nd} {key : List UInt8} (h : n.MayDel key) : mayDelB n key = true ∧ n.delN key = n.del key := by
  have : mayDelB n key = true := by unfold mayDelB; exact @decide_eq_true _ (Classical.propDecidable _) h
  exact ⟨this, by unfold Nd.delN; rw [if_pos this]⟩
theorem mayDelB_no {n : Nd} {key : List UInt8} (h : ¬ n.MayDel key) : mayDelB n key = false ∧ n.delN key = ⟨false, [], [], []⟩ := by
  have : mayDelB n key = false := by unfold mayDelB; exact @decide_eq_false _ (Classical.propDecidable _) h
  exact ⟨this, by unfold Nd.delN; rw [this]; rfl⟩
theorem zeroNew (W : World) (b : Nat) : NdNew W b (.slice none 0 0) (.slice none 0 0) (.slice none 0 0) ⟨false, [], [], []⟩ := ⟨OwnT.nil _ _ _, OwnT.nil _ _ _, Mine.nil _ _ _⟩
theorem put_law {n : Nd} {K V D kv vv : Value} {key val : List UInt8} {w : World} (hn : NdIs w w.heap.size K V D n) (hk : Rd w w.heap.size kv (cellsB key)) (hv : Rd w w.heap.size vv (cellsB val)) (hsh : n.Short 40000) :
    Calls Try.prog 19 #[ndVal n.leaf K V D, kv, vv] w fun e w' => ∃ K V D, e = .returned (.tuple #[ndVal (n.putN key val).leaf K V D, .bool (mayPutB n key val)]) ∧ NdNew w' w.heap.size K V D (n.putN key val) ∧ Below w.heap.size w w' := by
  by_cases h : n.MayPut key val
  · rw [(mayPutB_yes h).1, (mayPutB_yes h).2, h.1]
    exact (put_good hn hk hv hsh h).mono (by rintro e w' ⟨K, V, D, rfl, h1, h2⟩; exact ⟨K, V, D, rfl, h1, h2⟩)
  · rw [(mayPutB_no h).1, (mayPutB_no h).2]
    exact (put_bad hn hk hv ⟨by have := hsh.1; omega, by have := hsh.2.1; omega, by have := hsh.2.2; omega⟩ h).mono (by rintro e w' ⟨rfl, h2⟩; exact ⟨_, _, _, rfl, zeroNew _ _, h2⟩)
theorem del_law {n : Nd} {K V D kv : Value} {key : List UInt8} {w : World} (hn : NdIs w w.heap.size K V D n) (hk : Rd w w.heap.size kv (cellsB key)) (hsh : n.Short 40000) :
    Calls Try.prog 20 #[ndVal n.leaf K V D, kv] w fun e w' => ∃ K V D, e = .returned (.tuple #[ndVal (n.delN key).leaf K V D, .bool (mayDelB n key)]) ∧ NdNew w' w.heap.size K V D (n.delN key) ∧ Below w.heap.size w w' := by
  by_cases h : n.MayDel key
  · rw [(mayDelB_yes h).1, (mayDelB_yes h).2, h.1]
    exact (del_good hn hk hsh h).mono (by rintro e w' ⟨K, V, D, rfl, h1, h2⟩; exact ⟨K, V, D, rfl, h1, h2⟩)
  · rw [(mayDelB_no h).1, (mayDelB_no h).2]
    exact (del_bad hn hk ⟨by have := hsh.1; omega, by have := hsh.2.1; omega, by have := hsh.2.2; omega⟩ h).mono (by rintro e w' ⟨rfl, h2⟩; exact ⟨_, _, _, rfl, zeroNew _ _, h2⟩)
/-- The law's node, its key and value. -/
structure LwP (w0 w : World) (K V D : Value) (m : Nd) (kv : Value) (key : List UInt8) (vv : Value) (val : List UInt8) : Prop where
  law : LawN w0 w K V D m
  key : Rd w w.heap.size kv (cellsB key)
  val : Rd w w.heap.size vv (cellsB val)
/-- A node in a block p. -/
structure NdIn (w : World) (p : Nat) (lf : Bool) (K V D : Value) (n : Nd) : Prop where
  box : NdBox w p lf K V D
  is : NdIs w w.heap.size K V D n
section
variable {w0 w w' : World} {K V D K' V' kv vv u : Value} {m n : Nd} {key val : List UInt8} {p q base B0 : Nat} {lf b : Bool} {ks : List (List UInt8)} {a0 a1 a2 a3 : Value}
theorem LwP.kept (h : LwP w0 w K V D m kv key vv val) (hb : Below w.heap.size w w') : LwP w0 w' K V D m kv key vv val :=
  ⟨h.law.kept hb, (h.key.below hb).more hb.size, (h.val.below hb).more hb.size⟩
theorem NdIn.kept (h : NdIn w p lf K V D n) (hb : Below w.heap.size w w') : NdIn w' p lf K V D n := ⟨h.box.later h.box.lt hb, (h.is.below hb).more hb.size⟩
theorem NdIn.made (h : NdIs w w.heap.size K V D n) (lf : Bool) : NdIn (w.alloc (.cells #[.bool lf, K, V, D] 27)) w.heap.size lf K V D n :=
  ⟨NdBox.made w lf K V D, (h.alloc (Nat.le_refl _) _).more (by simp)⟩
/-- A row of one's own stays where a node is stored below it. -/
theorem OwnT.store4 (h : OwnT w B0 base u ks) (h1 : B0 ≤ q) (h2 : q < base) : OwnT (store4 w q b K V D) B0 base u ks :=
  h.keep ⟨Nat.le_of_eq store4_size.symm, fun k _ h3 _ => store4_other (by omega)⟩ (RowB.none _ _) (by omega) (fun _ _ e => by cases e)
theorem OwnT.stays (h : OwnT w B0 base u ks) (hb : Below w.heap.size w w') (hB : B0 ≤ base) : OwnT w' B0 base u ks := h.keep (Fr.below hb) (RowB.none _ _) hB (fun _ _ e => by cases e)
end
theorem same7_of {x : Nd} {lf : Bool} {K V D K' V' D' : Value} {w : World} (h1 : NdIs w w.heap.size K V D x) (h2 : NdIs w w.heap.size K' V' D' x) (hs : x.Short 1000000) (hl : x.leaf = lf) :
    Calls Try.prog 12 #[ndVal lf K V D, ndVal lf K' V' D'] w fun e w' => e = .returned (.bool true) ∧ Below w.heap.size w w' := by
  subst hl
  exact same7_yes h1 h2 (Nat.le_refl _) (Nat.le_refl _) hs
theorem zeroIs (w : World) (B : Nat) : NdIs w B (.slice none 0 0) (.slice none 0 0) (.slice none 0 0) ⟨false, [], [], []⟩ :=
  ⟨⟨[], Rd.nil _ _, rfl, fun _ _ _ a => by simp at a⟩, ⟨[], Rd.nil _ _, rfl, fun _ _ _ a => by simp at a⟩, Rd.nil _ _⟩
set_option maxRecDepth 100000 in
set_option maxHeartbeats 4000000 in
theorem nodePuts_walk (n : Nd) (K V D v : Value) (l : List UInt8) (u : Value) (r : List UInt8) (w : World) (hr : NdIs w w.heap.size K V D n) (hv : Rd w w.heap.size v (cellsB l)) (hu : Rd w w.heap.size u (cellsB r)) :
    Calls Try.prog 5 #[ndVal n.leaf K V D, v, u] w fun e w' => e = .returned (.bool true) ∧ Below w.heap.size w w' := by
  obtain ⟨A1, n1, c1, A2, n2, c2, A3, n3, c3, rfl, rfl, rfl⟩ := hr.slices
  have hc := cutNd_cut n
  have hb0 : Below w.heap.size w (w.alloc (.cells #[.bool n.leaf, .slice A1 n1 c1, .slice A2 n2 c2, .slice A3 n3 c3] 27)) := (Below.refl _ _).alloc (Nat.le_refl _) _
  have hfew := fewNd_any ((hr.below hb0).more hb0.size)
  have hlf : (cutNd n).leaf = n.leaf := rfl
  have hs0 : (w.alloc (.cells #[.bool n.leaf, .slice A1 n1 c1, .slice A2 n2 c2, .slice A3 n3 c3] 27)).heap.size = w.heap.size + 1 := by simp
  have htop := heap_alloc_last w (.cells #[.bool n.leaf, .slice A1 n1 c1, .slice A2 n2 c2, .slice A3 n3 c3] 27)
  obtain ⟨m, hm⟩ : ∃ m, m = cutNd n := ⟨_, rfl⟩
  rw [← hm] at hc hfew hlf
  rw [hs0, ← hlf] at hfew
  rw [← hlf] at hb0 htop hs0
  rw [← hlf]
  obtain ⟨lf, hlf2⟩ : ∃ x, x = m.leaf := ⟨_, rfl⟩
  rw [← hlf2] at hfew hb0 htop hs0 ⊢
  have hbx := NdBox.made w lf (.slice A1 n1 c1) (.slice A2 n2 c2) (.slice A3 n3 c3)
  have HF := Lib.hid hfew
  have HC := Lib.hid hc
  have H0 := Lib.hid hb0
  have HV := Lib.hid hv
  have HU := Lib.hid hu
  have HT := Lib.hid htop
  have HL := Lib.hid hlf2
  have HS0 := Lib.hid hs0
  obtain ⟨x0, x1, x2, x3⟩ := hbx
  clear hr hc hfew hlf hm hb0 hv hu htop hlf2 hs0
  go_enter Try.func5, Try.ntmps5
  go_wp2_with fail
  refine HF.out.mono ?_
  rintro e w1 ⟨K1, V1, D1, rfl, hn1, hb1⟩
  have HN1 := Lib.hid hn1
  have HB1 := Lib.hid (H0.out.trans (hb1.mono (by rw [← HS0.out]; exact H0.out.size)))
  have HT1 := Lib.hid ((hb1.block w.heap.size (by omega)).trans HT.out)
  have hkey := few_any v l 30 w1 w.heap.size (HV.out.below HB1.out) HB1.out.size (by omega)
  clear hn1 hb1 x0 x1 x2 x3
  go_wp2_with fail
  refine hkey.mono ?_
  rintro e w2 ⟨vk, rfl, hown, hb2⟩
  have HB2 := Lib.hid (up HB1.out hb2)
  have HT2 := Lib.hid ((hb2.block w.heap.size (Array.getElem?_eq_some_iff.1 HT1.out).1).trans HT1.out)
  have HN2 := Lib.hid (HN1.out.kept hb2)
  have HKy := Lib.hid hown
  have hval := few_any u r 30 w2 w.heap.size (HU.out.below HB2.out) HB2.out.size (by omega)
  have HW12 := Lib.hid hb2.size
  clear hkey hown hb2 HN1 HB1
  go_wp2_with fail
  refine hval.mono ?_
  rintro e w3 ⟨vl2, rfl, hown, hb3⟩
  have HB3 := Lib.hid (up HB2.out hb3)
  have HT3 := Lib.hid ((hb3.block w.heap.size (Array.getElem?_eq_some_iff.1 HT2.out).1).trans HT2.out)
  have HN3 := Lib.hid (HN2.out.kept hb3)
  have HKy3 := Lib.hid (HKy.out.frK (B0 := 0) (Fr.below hb3) (fun _ _ e => by cases e))
  have HVl := Lib.hid hown
  have HLt1 := Lib.hid (show w.heap.size < w1.heap.size from (Array.getElem?_eq_some_iff.1 HT1.out).1)
  clear hval hown hb3 HN2 HB2 HT2 HT1 HKy HV HU HT H0
  obtain ⟨A4, n4, c4, A5, n5, c5, A6, n6, c6, rfl, rfl, rfl⟩ := HN3.out.is.slices
  obtain ⟨y0, y1, y2, y3, f0, f1, f2, f3⟩ := out_cells HT3.out
  obtain ⟨W, hW⟩ : ∃ W, W = store4 w3 w.heap.size lf (.slice A4 n4 c4) (.slice A5 n5 c5) (.slice A6 n6 c6) := ⟨_, rfl⟩
  have hlaw : LawN w W (.slice A4 n4 c4) (.slice A5 n5 c5) (.slice A6 n6 c6) m := by rw [hW, HL.out]; exact LawN.start HT3.out HN3.out (Nat.lt_succ_self _) HB3.out
  have hmk : Mine W w1.heap.size 5 vk (cellsB (l.take 30)) := by
    rw [hW]
    exact HKy3.out.frK (B0 := 0) (g := none) ⟨Nat.le_of_eq store4_size.symm, fun k _ h2 _ => store4_other (by have := HLt1.out; omega)⟩ (fun _ _ e => by cases e)
  have hmv : Mine W w2.heap.size 5 vl2 (cellsB (r.take 30)) := by
    rw [hW]
    exact HVl.out.frK (B0 := 0) (g := none) ⟨Nat.le_of_eq store4_size.symm, fun k _ h2 _ => store4_other (by have := HLt1.out; have := HW12.out; omega)⟩ (fun _ _ e => by cases e)
  have hkl : (l.take 30).length ≤ 30 := by simp; omega
  have hvl : (r.take 30).length ≤ 30 := by simp; omega
  obtain ⟨key, hkk⟩ : ∃ key, key = l.take 30 := ⟨_, rfl⟩
  obtain ⟨val, hvv⟩ : ∃ key, key = r.take 30 := ⟨_, rfl⟩
  rw [← hkk] at hmk hkl
  rw [← hvv] at hmv hvl
  obtain ⟨Ak, ck, rfl⟩ := hmk.form
  obtain ⟨Av, cv, rfl⟩ := hmv.form
  have hlw : LwP w W (.slice A4 n4 c4) (.slice A5 n5 c5) (.slice A6 n6 c6) m (.slice Ak (cellsB key).length ck) key (.slice Av (cellsB val).length cv) val := ⟨hlaw, hmk.rd, hmv.rd⟩
  rw [cellsB_length, cellsB_length] at hlw
  rw [cellsB_length, cellsB_length]
  have HWW := Lib.hid hW
  have HKl := Lib.hid (And.intro hkl hvl)
  clear hW hlaw hmk hmv hkk hvv hkl hvl HF HN3 HB3 HT3 HKy3 HVl HLt1 HW12
  obtain ⟨kl, hkl⟩ : ∃ x, x = key.length := ⟨_, rfl⟩
  obtain ⟨vl, hvl⟩ : ∃ x, x = val.length := ⟨_, rfl⟩
  rw [← hkl, ← hvl] at hlw ⊢
  have HP0 := Lib.hid hlw
  have HLn := Lib.hid (And.intro hkl hvl)
  clear hlw hkl hvl
  go_wp2_with fail
  have hW := HWW.out
  unfold store4 at hW
  rw [← hW]
  clear hW HWW y0 y1 y2 y3 f0 f1 f2 f3
  obtain ⟨x0, x1, x2, x3⟩ := HP0.out.law.box
  have hf := HP0.out.law.few HC.out
  rw [← HL.out] at x0 hf
  have hSh : m.Short 40000 := ⟨by have := HC.out.k; omega, by have := HC.out.v; omega, by have := HC.out.d; omega⟩
  have HSh := Lib.hid hSh
  clear hSh
  go_wp2_with fail
  refine hf.mono ?_
  rintro e w4 ⟨Kf, Vf, Df, rfl, hnf, hlf4, hb4⟩
  have HP4 := Lib.hid (HP0.out.kept hb4)
  have hpu := put_law hnf HP4.out.key HP4.out.val HSh.out
  rw [← HL.out] at hpu
  obtain ⟨pB, hpB⟩ : ∃ x, x = mayPutB m key val := ⟨_, rfl⟩
  obtain ⟨la, hla⟩ : ∃ x, x = (m.putN key val).leaf := ⟨_, rfl⟩
  rw [← hpB, ← hla] at hpu
  have HpB := Lib.hid hpB
  have HLa := Lib.hid hla
  clear x0 x1 x2 x3 hf hnf hlf4 hb4 HP0 hpB hla
  go_wp2_with fail
  refine hpu.mono ?_
  rintro e w5 ⟨Ka, Va, Da, rfl, hna, hb5⟩
  obtain ⟨B1, i1, j1, B2, i2, j2, B3, i3, j3, rfl, rfl, rfl⟩ := hna.is.slices
  have hba := (Below.refl w5.heap.size w5).alloc (Nat.le_refl _) (.cells #[.bool la, .slice B1 i1 j1, .slice B2 i2 j2, .slice B3 i3 j3] 27)
  have hp5 := (HP4.out.kept hb5).kept hba
  have hin := NdIn.made hna.is la
  have hf := hp5.law.few HC.out
  obtain ⟨x0, x1, x2, x3⟩ := hp5.law.box
  rw [← HL.out] at x0 hf
  obtain ⟨W5, hW5⟩ : ∃ X, X = w5.alloc (.cells #[.bool la, .slice B1 i1 j1, .slice B2 i2 j2, .slice B3 i3 j3] 27) := ⟨_, rfl⟩
  obtain ⟨pa, hpa⟩ : ∃ x, x = w5.heap.size := ⟨_, rfl⟩
  rw [← hW5] at hp5 hin hf
  rw [← hpa] at hin
  have HW5 := Lib.hid hW5
  have HPa := Lib.hid hpa
  have HP5 := Lib.hid hp5
  have HA5 := Lib.hid hin
  have Hf := Lib.hid hf
  clear hW5 hpa hp5 hin hf hba hna hb5 hpu HP4
  go_wp2_with fail
  rw [← HPa.out, ← HW5.out]
  refine Hf.out.mono ?_
  rintro e w6 ⟨Kf, Vf, Df, rfl, hnf, hlf4, hb6⟩
  have HP6 := Lib.hid (HP5.out.kept hb6)
  have HA6 := Lib.hid (HA5.out.kept hb6)
  have hde := del_law hnf HP6.out.key HSh.out
  rw [← HL.out] at hde
  obtain ⟨dB, hdB⟩ : ∃ x, x = mayDelB m key := ⟨_, rfl⟩
  obtain ⟨lb, hlb⟩ : ∃ x, x = (m.delN key).leaf := ⟨_, rfl⟩
  rw [← hdB, ← hlb] at hde
  have HdB := Lib.hid hdB
  have HLb := Lib.hid hlb
  clear x0 x1 x2 x3 hnf hlf4 hb6 HP5 HA5 hdB hlb Hf HW5 HPa
  go_wp2_with fail
  refine hde.mono ?_
  rintro e w7 ⟨Kb, Vb, Db, rfl, hnb, hb7⟩
  obtain ⟨E1, k1, l1, E2, k2, l2, E3, k3, l3, rfl, rfl, rfl⟩ := hnb.is.slices
  have hba := (Below.refl w7.heap.size w7).alloc (Nat.le_refl _) (.cells #[.bool lb, .slice E1 k1 l1, .slice E2 k2 l2, .slice E3 k3 l3] 27)
  have hp7 := (HP6.out.kept hb7).kept hba
  have ha7 := (HA6.out.kept hb7).kept hba
  have hin := NdIn.made hnb.is lb
  have hsn := hp7.law.sound HC.out
  have hbl := fun (X : World) (h : LwP w X (.slice A4 n4 c4) (.slice A5 n5 c5) (.slice A6 n6 c6) m (.slice Ak kl ck) key (.slice Av vl cv) val) => rbelow_any h.law.is (Nat.le_refl _) h.key (Nat.le_refl _) (by have := HC.out.k; omega) HC.out.small.1 (by have := HKl.out.1; omega)
  obtain ⟨x0, x1, x2, x3⟩ := hp7.law.box
  rw [← HL.out] at x0 hsn hbl
  obtain ⟨th, hth⟩ : ∃ x, x = hasN m.keys key m.keys.length := ⟨_, rfl⟩
  obtain ⟨pp, hpp⟩ : ∃ x, x = belowN m.keys key m.keys.length := ⟨_, rfl⟩
  rw [← hth, ← hpp] at hbl
  have HTh := Lib.hid (show th = isN m.keys key from hth)
  obtain ⟨W7, hW7⟩ : ∃ X, X = w7.alloc (.cells #[.bool lb, .slice E1 k1 l1, .slice E2 k2 l2, .slice E3 k3 l3] 27) := ⟨_, rfl⟩
  obtain ⟨pb, hpb⟩ : ∃ x, x = w7.heap.size := ⟨_, rfl⟩
  rw [← hW7] at hp7 ha7 hin hsn
  rw [← hpb] at hin
  have HW7 := Lib.hid hW7
  have HPb := Lib.hid hpb
  have HP7 := Lib.hid hp7
  have HA7 := Lib.hid ha7
  have HB7 := Lib.hid hin
  have Hsn := Lib.hid hsn
  have Hbl := Lib.hid hbl
  clear hW7 hpb hp7 ha7 hin hsn hbl hba hnb hb7 hde HP6 HA6 hth hpp
  have hNoP : (lf = false ∨ sndB m = false) → pB = false ∧ la = false ∧ m.putN key val = ⟨false, [], [], []⟩ ∧ dB = false ∧ lb = false ∧ m.delN key = ⟨false, [], [], []⟩ := fun h => by
    have h1 : ¬ m.MayPut key val := fun g => by
      rcases h with h | h
      · rw [HL.out, g.1] at h; cases h
      · rw [sndB_iff.2 g.2.1] at h; cases h
    have h2 : ¬ m.MayDel key := fun g => by
      rcases h with h | h
      · rw [HL.out, g.1] at h; cases h
      · rw [sndB_iff.2 g.2.1] at h; cases h
    have e1 := mayPutB_no h1
    have e2 := mayDelB_no h2
    exact ⟨HpB.out.trans e1.1, by rw [HLa.out, e1.2], e1.2, HdB.out.trans e2.1, by rw [HLb.out, e2.2], e2.2⟩
  have HNo := Lib.hid hNoP
  clear hNoP
  cases lf
  · obtain ⟨e1, e2, e3, e4, e5, e6⟩ := HNo.out (Or.inl rfl)
    subst e1 e2 e4 e5
    have HPn := Lib.hid e3
    have HDn := Lib.hid e6
    clear e3 e6
    go_wp2_with fail
    rw [← HPb.out, ← HW7.out]
    refine (Hbl.out _ HP7.out).mono ?_
    rintro e w8 ⟨rfl, hb8⟩
    have HP8 := Lib.hid (HP7.out.kept hb8)
    have HA8 := Lib.hid (HA7.out.kept hb8)
    have HB8 := Lib.hid (HB7.out.kept hb8)
    clear hb8 Hbl x0 x1 x2 x3
    have hb9 := ((Below.refl w8.heap.size w8).alloc (Nat.le_refl _) (.cells #[.bool false, .slice none 0 0, .slice none 0 0, .slice none 0 0] 27)).alloc (by simp) (.cells #[.bool false, .slice none 0 0, .slice none 0 0, .slice none 0 0] 27)
    have hp9 := HP8.out.kept hb9
    have ha9 := HA8.out.kept hb9
    have hq9 := HB8.out.kept hb9
    have htx : ((w8.alloc (.cells #[.bool false, .slice none 0 0, .slice none 0 0, .slice none 0 0] 27)).alloc (.cells #[.bool false, .slice none 0 0, .slice none 0 0, .slice none 0 0] 27)).heap[w8.heap.size]? = some (.cells #[.bool false, .slice none 0 0, .slice none 0 0, .slice none 0 0] 27 (0, 0)) := (heap_alloc_old _ _ (by simp)).trans (heap_alloc_last _ _)
    have hty : ((w8.alloc (.cells #[.bool false, .slice none 0 0, .slice none 0 0, .slice none 0 0] 27)).alloc (.cells #[.bool false, .slice none 0 0, .slice none 0 0, .slice none 0 0] 27)).heap[w8.heap.size + 1]? = some (.cells #[.bool false, .slice none 0 0, .slice none 0 0, .slice none 0 0] 27 (0, 0)) := by
      have := heap_alloc_last (w8.alloc (.cells #[.bool false, .slice none 0 0, .slice none 0 0, .slice none 0 0] 27)) (.cells #[.bool false, .slice none 0 0, .slice none 0 0, .slice none 0 0] 27)
      rw [show (w8.alloc (.cells #[.bool false, .slice none 0 0, .slice none 0 0, .slice none 0 0] 27)).heap.size = w8.heap.size + 1 by simp] at this
      exact this
    have hsz : ((w8.alloc (.cells #[.bool false, .slice none 0 0, .slice none 0 0, .slice none 0 0] 27)).alloc (.cells #[.bool false, .slice none 0 0, .slice none 0 0, .slice none 0 0] 27)).heap.size = w8.heap.size + 1 + 1 := by simp
    obtain ⟨x0, x1, x2, x3⟩ := ha9.box
    obtain ⟨z0, z1, z2, z3⟩ := box_of_top htx
    obtain ⟨W9, hW9⟩ : ∃ X, X = (w8.alloc (.cells #[.bool false, .slice none 0 0, .slice none 0 0, .slice none 0 0] 27)).alloc (.cells #[.bool false, .slice none 0 0, .slice none 0 0, .slice none 0 0] 27) := ⟨_, rfl⟩
    obtain ⟨b8, hb8⟩ : ∃ x, x = w8.heap.size := ⟨_, rfl⟩
    have hnB := (HP8.out.law.is.below hb9)
    have hkB := (HP8.out.key.below hb9)
    have hvB := (HP8.out.val.below hb9)
    rw [← hW9] at hb9 hp9 ha9 hq9 htx hty hsz hnB hkB hvB
    rw [← hb8] at hb9 htx hty hsz hnB hkB hvB
    have HW9 := Lib.hid (And.intro hb8 hW9)
    have HP9 := Lib.hid hp9
    have HA9 := Lib.hid ha9
    have HB9 := Lib.hid hq9
    have HTx := Lib.hid htx
    have HTy := Lib.hid hty
    have HSz := Lib.hid hsz
    have HBl := Lib.hid hb9
    have HnB := Lib.hid (And.intro hnB (And.intro hkB hvB))
    clear hb9 hp9 ha9 hq9 htx hty hsz hW9 hb8 hnB hkB hvB
    have HPy := Lib.hid (HP8.out.kept (by have := HBl.out; rw [HW9.out.1] at this; exact this))
    have HAy := Lib.hid (HA8.out.kept (by have := HBl.out; rw [HW9.out.1] at this; exact this))
    have HBy := Lib.hid (HB8.out.kept (by have := HBl.out; rw [HW9.out.1] at this; exact this))
    have hai := HAy.out.is
    rw [HPn.out] at hai
    have hsa := same7_of (w := W9) hai (zeroIs _ _) (by unfold Nd.Short; simp) rfl
    have HTxE := Lib.hid HTx.out
    have HTyE := Lib.hid HTy.out
    have HBi := Lib.hid HBy.out
    have Hsa := Lib.hid hsa
    clear hsa hai
    go_wp2_with fail
    rw [← HW9.out.1, ← HW9.out.2]
    refine Hsa.out.mono ?_
    rintro e wm ⟨rfl, hbm⟩
    have hbi := HBi.out.kept hbm
    obtain ⟨x0, x1, x2, x3⟩ := hbi.box
    obtain ⟨z0, z1, z2, z3⟩ := box_of_top ((hbm.block _ (Array.getElem?_eq_some_iff.1 HTyE.out).1).trans HTyE.out)
    have hbis := hbi.is
    rw [HDn.out] at hbis
    have hsb := same7_of (w := wm) hbis (zeroIs _ _) (by unfold Nd.Short; simp) rfl
    have Hsb := Lib.hid hsb
    have HPm := Lib.hid (HPy.out.kept hbm)
    clear hsb hbis hbi hbm Hsa
    go_wp2_with fail
    refine Hsb.out.mono ?_
    rintro e wl ⟨rfl, hbl⟩
    have hlv := (HPm.out.kept hbl).law.lives
    clear hbl Hsb x0 x1 x2 x3 z0 z1 z2 z3
    go_wp2_with fail
    refine hlv.mono ?_
    rintro e we ⟨rfl, hbe⟩
    go_wp2_with fail
    go_ret
    exact ⟨rfl, hbe⟩
  · go_wp2_with fail
    rw [← HPb.out, ← HW7.out]
    refine Hsn.out.mono ?_
    rintro e wq ⟨rfl, hlq, hbq⟩
    have HPq := Lib.hid (HP7.out.kept hbq)
    have HAq := Lib.hid (HA7.out.kept hbq)
    have HBq := Lib.hid (HB7.out.kept hbq)
    clear hlq hbq Hsn x0 x1 x2 x3 HP7 HA7 HB7 HW7 HPb
    obtain ⟨x0, x1, x2, x3⟩ := HPq.out.law.box
    rw [← HL.out] at x0
    cases hs : sndB m
    · obtain ⟨e1, e2, e3, e4, e5, e6⟩ := HNo.out (Or.inr hs)
      subst e1 e2 e4 e5
      have HPn := Lib.hid e3
      have HDn := Lib.hid e6
      clear e3 e6
      clear hs
      go_wp2_with fail
      skip
      refine (Hbl.out _ HPq.out).mono ?_
      rintro e w8 ⟨rfl, hb8⟩
      have HP8 := Lib.hid (HPq.out.kept hb8)
      have HA8 := Lib.hid (HAq.out.kept hb8)
      have HB8 := Lib.hid (HBq.out.kept hb8)
      clear hb8 Hbl x0 x1 x2 x3
      have hb9 := ((Below.refl w8.heap.size w8).alloc (Nat.le_refl _) (.cells #[.bool false, .slice none 0 0, .slice none 0 0, .slice none 0 0] 27)).alloc (by simp) (.cells #[.bool false, .slice none 0 0, .slice none 0 0, .slice none 0 0] 27)
      have hp9 := HP8.out.kept hb9
      have ha9 := HA8.out.kept hb9
      have hq9 := HB8.out.kept hb9
      have htx : ((w8.alloc (.cells #[.bool false, .slice none 0 0, .slice none 0 0, .slice none 0 0] 27)).alloc (.cells #[.bool false, .slice none 0 0, .slice none 0 0, .slice none 0 0] 27)).heap[w8.heap.size]? = some (.cells #[.bool false, .slice none 0 0, .slice none 0 0, .slice none 0 0] 27 (0, 0)) := (heap_alloc_old _ _ (by simp)).trans (heap_alloc_last _ _)
      have hty : ((w8.alloc (.cells #[.bool false, .slice none 0 0, .slice none 0 0, .slice none 0 0] 27)).alloc (.cells #[.bool false, .slice none 0 0, .slice none 0 0, .slice none 0 0] 27)).heap[w8.heap.size + 1]? = some (.cells #[.bool false, .slice none 0 0, .slice none 0 0, .slice none 0 0] 27 (0, 0)) := by
        have := heap_alloc_last (w8.alloc (.cells #[.bool false, .slice none 0 0, .slice none 0 0, .slice none 0 0] 27)) (.cells #[.bool false, .slice none 0 0, .slice none 0 0, .slice none 0 0] 27)
        rw [show (w8.alloc (.cells #[.bool false, .slice none 0 0, .slice none 0 0, .slice none 0 0] 27)).heap.size = w8.heap.size + 1 by simp] at this
        exact this
      have hsz : ((w8.alloc (.cells #[.bool false, .slice none 0 0, .slice none 0 0, .slice none 0 0] 27)).alloc (.cells #[.bool false, .slice none 0 0, .slice none 0 0, .slice none 0 0] 27)).heap.size = w8.heap.size + 1 + 1 := by simp
      obtain ⟨x0, x1, x2, x3⟩ := ha9.box
      obtain ⟨z0, z1, z2, z3⟩ := box_of_top htx
      obtain ⟨W9, hW9⟩ : ∃ X, X = (w8.alloc (.cells #[.bool false, .slice none 0 0, .slice none 0 0, .slice none 0 0] 27)).alloc (.cells #[.bool false, .slice none 0 0, .slice none 0 0, .slice none 0 0] 27) := ⟨_, rfl⟩
      obtain ⟨b8, hb8⟩ : ∃ x, x = w8.heap.size := ⟨_, rfl⟩
      have hnB := (HP8.out.law.is.below hb9)
      have hkB := (HP8.out.key.below hb9)
      have hvB := (HP8.out.val.below hb9)
      rw [← hW9] at hb9 hp9 ha9 hq9 htx hty hsz hnB hkB hvB
      rw [← hb8] at hb9 htx hty hsz hnB hkB hvB
      have HW9 := Lib.hid (And.intro hb8 hW9)
      have HP9 := Lib.hid hp9
      have HA9 := Lib.hid ha9
      have HB9 := Lib.hid hq9
      have HTx := Lib.hid htx
      have HTy := Lib.hid hty
      have HSz := Lib.hid hsz
      have HBl := Lib.hid hb9
      have HnB := Lib.hid (And.intro hnB (And.intro hkB hvB))
      clear hb9 hp9 ha9 hq9 htx hty hsz hW9 hb8 hnB hkB hvB
      have HPy := Lib.hid (HP8.out.kept (by have := HBl.out; rw [HW9.out.1] at this; exact this))
      have HAy := Lib.hid (HA8.out.kept (by have := HBl.out; rw [HW9.out.1] at this; exact this))
      have HBy := Lib.hid (HB8.out.kept (by have := HBl.out; rw [HW9.out.1] at this; exact this))
      have hai := HAy.out.is
      rw [HPn.out] at hai
      have hsa := same7_of (w := W9) hai (zeroIs _ _) (by unfold Nd.Short; simp) rfl
      have HTxE := Lib.hid HTx.out
      have HTyE := Lib.hid HTy.out
      have HBi := Lib.hid HBy.out
      have Hsa := Lib.hid hsa
      clear hsa hai
      go_wp2_with fail
      rw [← HW9.out.1, ← HW9.out.2]
      refine Hsa.out.mono ?_
      rintro e wm ⟨rfl, hbm⟩
      have hbi := HBi.out.kept hbm
      obtain ⟨x0, x1, x2, x3⟩ := hbi.box
      obtain ⟨z0, z1, z2, z3⟩ := box_of_top ((hbm.block _ (Array.getElem?_eq_some_iff.1 HTyE.out).1).trans HTyE.out)
      have hbis := hbi.is
      rw [HDn.out] at hbis
      have hsb := same7_of (w := wm) hbis (zeroIs _ _) (by unfold Nd.Short; simp) rfl
      have Hsb := Lib.hid hsb
      have HPm := Lib.hid (HPy.out.kept hbm)
      clear hsb hbis hbi hbm Hsa
      go_wp2_with fail
      refine Hsb.out.mono ?_
      rintro e wl ⟨rfl, hbl⟩
      have hlv := (HPm.out.kept hbl).law.lives
      clear hbl Hsb x0 x1 x2 x3 z0 z1 z2 z3
      go_wp2_with fail
      refine hlv.mono ?_
      rintro e we ⟨rfl, hbe⟩
      go_wp2_with fail
      go_ret
      exact ⟨rfl, hbe⟩
    · have hsn := sndB_iff.1 hs
      have hml : m.leaf = true := HL.out.symm
      have HVk := Lib.hid (show m.vals.length = m.keys.length from (hsn.ofLeaf hml).2)
      have hPy : (1 ≤ kl ∧ kl ≤ 24 ∧ vl ≤ 24) → m.MayPut key val ∧ pB = true ∧ la = true ∧ m.putN key val = m.put key val := fun h => by
        have g : m.MayPut key val := ⟨hml, hsn, by unfold KeyOk; rw [← HLn.out.1]; exact ⟨h.1, h.2.1⟩, by rw [← HLn.out.2]; exact h.2.2⟩
        have e := mayPutB_yes g
        exact ⟨g, HpB.out.trans e.1, by rw [HLa.out, e.2]; rfl, e.2⟩
      have hPn : ¬ (1 ≤ kl ∧ kl ≤ 24 ∧ vl ≤ 24) → pB = false ∧ la = false ∧ m.putN key val = ⟨false, [], [], []⟩ := fun h => by
        have g : ¬ m.MayPut key val := fun g => h ⟨by rw [HLn.out.1]; exact g.2.2.1.1, by rw [HLn.out.1]; exact g.2.2.1.2, by rw [HLn.out.2]; exact g.2.2.2⟩
        have e := mayPutB_no g
        exact ⟨HpB.out.trans e.1, by rw [HLa.out, e.2], e.2⟩
      have hDy : th = true → m.MayDel key ∧ dB = true ∧ lb = true ∧ m.delN key = m.del key := fun h => by
        have g : m.MayDel key := ⟨hml, hsn, HTh.out ▸ h⟩
        have e := mayDelB_yes g
        exact ⟨g, HdB.out.trans e.1, by rw [HLb.out, e.2]; rfl, e.2⟩
      have hDn : th = false → dB = false ∧ lb = false ∧ m.delN key = ⟨false, [], [], []⟩ := fun h => by
        have g : ¬ m.MayDel key := fun g => by have := g.2.2; rw [← HTh.out, h] at this; cases this
        have e := mayDelB_no g
        exact ⟨HdB.out.trans e.1, by rw [HLb.out, e.2], e.2⟩
      have HPy' := Lib.hid hPy
      have HPn' := Lib.hid hPn
      have HDy' := Lib.hid hDy
      have HDn' := Lib.hid hDn
      have hK30 := HKl.out
      rw [← HLn.out.1, ← HLn.out.2] at hK30
      obtain ⟨hk30, hv30⟩ := hK30
      clear hPy hPn hDy hDn hsn hml hs HNo
      go_wp2_with fail
      skip
      refine (Hbl.out _ HPq.out).mono ?_
      rintro e w8 ⟨rfl, hb8⟩
      have HP8 := Lib.hid (HPq.out.kept hb8)
      have HA8 := Lib.hid (HAq.out.kept hb8)
      have HB8 := Lib.hid (HBq.out.kept hb8)
      clear hb8 Hbl x0 x1 x2 x3
      clear HPq HAq HBq
      have HP8B := Lib.hid (And.intro (fun (X : World) (h : Below w8.heap.size w8 X) => HP8.out.law.is.below h) (fun (X : World) (h : Below w8.heap.size w8 X) => HP8.out.key.below h))
      cases th
      · obtain ⟨d1, d2, d3⟩ := HDn'.out rfl
        subst d1 d2
        have HDn := Lib.hid d3
        clear d3
        by_cases hk1 : 1 ≤ kl
        · by_cases hk2 : kl ≤ 24
          · by_cases hv1 : vl ≤ 24
            · obtain ⟨hmp, e1, e2, e3⟩ := HPy'.out ⟨hk1, hk2, hv1⟩
              subst e1 e2
              have HPn := Lib.hid e3
              have HMp := Lib.hid hmp
              clear e3 hmp
              have hvd : decide ((vl : Int) ≤ 24) = true := by simp; omega
              have hb9 := ((Below.refl w8.heap.size w8).alloc (Nat.le_refl _) (.cells #[.bool false, .slice none 0 0, .slice none 0 0, .slice none 0 0] 27)).alloc (by simp) (.cells #[.bool false, .slice none 0 0, .slice none 0 0, .slice none 0 0] 27)
              have hp9 := HP8.out.kept hb9
              have ha9 := HA8.out.kept hb9
              have hq9 := HB8.out.kept hb9
              have htx : ((w8.alloc (.cells #[.bool false, .slice none 0 0, .slice none 0 0, .slice none 0 0] 27)).alloc (.cells #[.bool false, .slice none 0 0, .slice none 0 0, .slice none 0 0] 27)).heap[w8.heap.size]? = some (.cells #[.bool false, .slice none 0 0, .slice none 0 0, .slice none 0 0] 27 (0, 0)) := (heap_alloc_old _ _ (by simp)).trans (heap_alloc_last _ _)
              have hty : ((w8.alloc (.cells #[.bool false, .slice none 0 0, .slice none 0 0, .slice none 0 0] 27)).alloc (.cells #[.bool false, .slice none 0 0, .slice none 0 0, .slice none 0 0] 27)).heap[w8.heap.size + 1]? = some (.cells #[.bool false, .slice none 0 0, .slice none 0 0, .slice none 0 0] 27 (0, 0)) := by
                have := heap_alloc_last (w8.alloc (.cells #[.bool false, .slice none 0 0, .slice none 0 0, .slice none 0 0] 27)) (.cells #[.bool false, .slice none 0 0, .slice none 0 0, .slice none 0 0] 27)
                rw [show (w8.alloc (.cells #[.bool false, .slice none 0 0, .slice none 0 0, .slice none 0 0] 27)).heap.size = w8.heap.size + 1 by simp] at this
                exact this
              have hsz : ((w8.alloc (.cells #[.bool false, .slice none 0 0, .slice none 0 0, .slice none 0 0] 27)).alloc (.cells #[.bool false, .slice none 0 0, .slice none 0 0, .slice none 0 0] 27)).heap.size = w8.heap.size + 1 + 1 := by simp
              obtain ⟨x0, x1, x2, x3⟩ := hp9.law.box
              rw [← HL.out] at x0
              obtain ⟨W9, hW9⟩ : ∃ X, X = (w8.alloc (.cells #[.bool false, .slice none 0 0, .slice none 0 0, .slice none 0 0] 27)).alloc (.cells #[.bool false, .slice none 0 0, .slice none 0 0, .slice none 0 0] 27) := ⟨_, rfl⟩
              obtain ⟨b8, hb8⟩ : ∃ x, x = w8.heap.size := ⟨_, rfl⟩
              have hnB := (HP8.out.law.is.below hb9)
              have hkB := (HP8.out.key.below hb9)
              have hvB := (HP8.out.val.below hb9)
              rw [← hW9] at hb9 hp9 ha9 hq9 htx hty hsz hnB hkB hvB
              rw [← hb8] at hb9 htx hty hsz hnB hkB hvB
              have HW9 := Lib.hid (And.intro hb8 hW9)
              have HP9 := Lib.hid hp9
              have HA9 := Lib.hid ha9
              have HB9 := Lib.hid hq9
              have HTx := Lib.hid htx
              have HTy := Lib.hid hty
              have HSz := Lib.hid hsz
              have HBl := Lib.hid hb9
              have HnB := Lib.hid (And.intro hnB (And.intro hkB hvB))
              clear hb9 hp9 ha9 hq9 htx hty hsz hW9 hb8 hnB hkB hvB
              go_wp2_with fail
              rw [← HW9.out.1, ← HW9.out.2]
              have hcl := rput_any (B0 := b8) (by have := HSz.out; omega) HnB.out.1 HnB.out.2.1 HnB.out.2.2 HSh.out HMp.out
              refine hcl.mono ?_
              rintro e wx ⟨Kx, Vx, rfl, hkx, hvx, hbx⟩
              obtain ⟨X1, p1, q1, X2, p2, q2, -, -, -, rfl, rfl, -⟩ := (show NdIs wx wx.heap.size Kx Vx (.slice none 0 0) ⟨true, (m.put key val).keys, (m.put key val).vals, []⟩ from ⟨hkx.rd, hvx.rd, Rd.nil _ _⟩).slices
              have htx := (hbx.block _ (by have := HSz.out; omega)).trans HTx.out
              have hty := (hbx.block _ (by have := HSz.out; omega)).trans HTy.out
              obtain ⟨y0, y1, y2, y3, f0, f1, f2, f3⟩ := out_cells htx
              obtain ⟨Wx, hWx⟩ : ∃ X, X = store4 wx b8 true (.slice X1 p1 q1) (.slice X2 p2 q2) (.slice none 0 0) := ⟨_, rfl⟩
              have hkx2 := hkx.store4 (q := b8) (b := true) (K := .slice X1 p1 q1) (V := .slice X2 p2 q2) (D := .slice none 0 0) (Nat.le_refl _) (by have := HSz.out; omega)
              have hvx2 := hvx.store4 (q := b8) (b := true) (K := .slice X1 p1 q1) (V := .slice X2 p2 q2) (D := .slice none 0 0) (Nat.le_refl _) (by have := HSz.out; omega)
              have htx2 := store4_top (lf := true) (K := .slice X1 p1 q1) (V := .slice X2 p2 q2) (D := .slice none 0 0) htx
              have hty2 := (store4_other (w := wx) (N := b8) (lf := true) (K := .slice X1 p1 q1) (V := .slice X2 p2 q2) (D := .slice none 0 0) (show b8 + 1 ≠ b8 by omega)).trans hty
              have hbl2 := (HBl.out.trans (hbx.mono (by have := HSz.out; omega))).trans (store4_below (w := wx) (N := b8) (lf := true) (K := .slice X1 p1 q1) (V := .slice X2 p2 q2) (D := .slice none 0 0) (Nat.le_refl _))
              have hsx : W9.heap.size ≤ Wx.heap.size := by rw [hWx, store4_size]; exact hbx.size
              rw [← hWx] at hkx2 hvx2 htx2 hty2 hbl2
              have HOx := Lib.hid (And.intro hkx2 hvx2)
              have HTx2 := Lib.hid htx2
              have HTy2 := Lib.hid hty2
              have HBl2 := Lib.hid hbl2
              have HSx := Lib.hid hsx
              have HWx := Lib.hid hWx
              clear hcl hkx hvx hbx htx hty hkx2 hvx2 htx2 hty2 hbl2 hsx x0 x1 x2 x3
              have HPy := Lib.hid (HP8.out.kept (by have := HBl2.out; rw [HW9.out.1] at this; exact this))
              have HAy := Lib.hid (HA8.out.kept (by have := HBl2.out; rw [HW9.out.1] at this; exact this))
              have HBy := Lib.hid (HB8.out.kept (by have := HBl2.out; rw [HW9.out.1] at this; exact this))
              obtain ⟨x0, x1, x2, x3⟩ := HAy.out.box
              obtain ⟨z0, z1, z2, z3⟩ := box_of_top HTx2.out
              simp only [hWx, store4] at x0 x1 x2 x3 z0 z1 z2 z3
              clear hWx
              go_wp2_with fail
              have hWx := HWx.out
              unfold store4 at hWx
              rw [← hWx]
              clear hWx HWx y0 y1 y2 y3 f0 f1 f2 f3 x0 x1 x2 x3 z0 z1 z2 z3
              have hai := HAy.out.is
              rw [HPn.out] at hai
              have hsa := same7_of (w := Wx) hai (show NdIs Wx Wx.heap.size (.slice X1 p1 q1) (.slice X2 p2 q2) (.slice none 0 0) (m.put key val) from ⟨HOx.out.1.rd, HOx.out.2.rd, Rd.nil _ _⟩) ⟨Nat.le_trans (putL_len atN_le) (by have := HC.out.k; omega), Nat.le_trans (putL_len (by rw [HVk.out]; exact atN_le)) (by have := HC.out.v; omega), Nat.zero_le _⟩ rfl
              have HTxE := Lib.hid HTx2.out
              have HTyE := Lib.hid HTy2.out
              have HBi := Lib.hid HBy.out
              have Hsa := Lib.hid hsa
              clear hsa hai
              skip
              refine Hsa.out.mono ?_
              rintro e wm ⟨rfl, hbm⟩
              have hbi := HBi.out.kept hbm
              obtain ⟨x0, x1, x2, x3⟩ := hbi.box
              obtain ⟨z0, z1, z2, z3⟩ := box_of_top ((hbm.block _ (Array.getElem?_eq_some_iff.1 HTyE.out).1).trans HTyE.out)
              have hbis := hbi.is
              rw [HDn.out] at hbis
              have hsb := same7_of (w := wm) hbis (zeroIs _ _) (by unfold Nd.Short; simp) rfl
              have Hsb := Lib.hid hsb
              have HPm := Lib.hid (HPy.out.kept hbm)
              clear hsb hbis hbi hbm Hsa
              go_wp2_with fail
              refine Hsb.out.mono ?_
              rintro e wl ⟨rfl, hbl⟩
              have hlv := (HPm.out.kept hbl).law.lives
              clear hbl Hsb x0 x1 x2 x3 z0 z1 z2 z3
              go_wp2_with fail
              refine hlv.mono ?_
              rintro e we ⟨rfl, hbe⟩
              go_wp2_with fail
              go_ret
              exact ⟨rfl, hbe⟩
            · obtain ⟨e1, e2, e3⟩ := HPn'.out (by omega)
              subst e1 e2
              have HPn := Lib.hid e3
              clear e3
              have hvd : decide ((vl : Int) ≤ 24) = false := by simp; omega
              have hb9 := ((Below.refl w8.heap.size w8).alloc (Nat.le_refl _) (.cells #[.bool false, .slice none 0 0, .slice none 0 0, .slice none 0 0] 27)).alloc (by simp) (.cells #[.bool false, .slice none 0 0, .slice none 0 0, .slice none 0 0] 27)
              have hp9 := HP8.out.kept hb9
              have ha9 := HA8.out.kept hb9
              have hq9 := HB8.out.kept hb9
              have htx : ((w8.alloc (.cells #[.bool false, .slice none 0 0, .slice none 0 0, .slice none 0 0] 27)).alloc (.cells #[.bool false, .slice none 0 0, .slice none 0 0, .slice none 0 0] 27)).heap[w8.heap.size]? = some (.cells #[.bool false, .slice none 0 0, .slice none 0 0, .slice none 0 0] 27 (0, 0)) := (heap_alloc_old _ _ (by simp)).trans (heap_alloc_last _ _)
              have hty : ((w8.alloc (.cells #[.bool false, .slice none 0 0, .slice none 0 0, .slice none 0 0] 27)).alloc (.cells #[.bool false, .slice none 0 0, .slice none 0 0, .slice none 0 0] 27)).heap[w8.heap.size + 1]? = some (.cells #[.bool false, .slice none 0 0, .slice none 0 0, .slice none 0 0] 27 (0, 0)) := by
                have := heap_alloc_last (w8.alloc (.cells #[.bool false, .slice none 0 0, .slice none 0 0, .slice none 0 0] 27)) (.cells #[.bool false, .slice none 0 0, .slice none 0 0, .slice none 0 0] 27)
                rw [show (w8.alloc (.cells #[.bool false, .slice none 0 0, .slice none 0 0, .slice none 0 0] 27)).heap.size = w8.heap.size + 1 by simp] at this
                exact this
              have hsz : ((w8.alloc (.cells #[.bool false, .slice none 0 0, .slice none 0 0, .slice none 0 0] 27)).alloc (.cells #[.bool false, .slice none 0 0, .slice none 0 0, .slice none 0 0] 27)).heap.size = w8.heap.size + 1 + 1 := by simp
              obtain ⟨x0, x1, x2, x3⟩ := ha9.box
              obtain ⟨z0, z1, z2, z3⟩ := box_of_top htx
              obtain ⟨W9, hW9⟩ : ∃ X, X = (w8.alloc (.cells #[.bool false, .slice none 0 0, .slice none 0 0, .slice none 0 0] 27)).alloc (.cells #[.bool false, .slice none 0 0, .slice none 0 0, .slice none 0 0] 27) := ⟨_, rfl⟩
              obtain ⟨b8, hb8⟩ : ∃ x, x = w8.heap.size := ⟨_, rfl⟩
              have hnB := (HP8.out.law.is.below hb9)
              have hkB := (HP8.out.key.below hb9)
              have hvB := (HP8.out.val.below hb9)
              rw [← hW9] at hb9 hp9 ha9 hq9 htx hty hsz hnB hkB hvB
              rw [← hb8] at hb9 htx hty hsz hnB hkB hvB
              have HW9 := Lib.hid (And.intro hb8 hW9)
              have HP9 := Lib.hid hp9
              have HA9 := Lib.hid ha9
              have HB9 := Lib.hid hq9
              have HTx := Lib.hid htx
              have HTy := Lib.hid hty
              have HSz := Lib.hid hsz
              have HBl := Lib.hid hb9
              have HnB := Lib.hid (And.intro hnB (And.intro hkB hvB))
              clear hb9 hp9 ha9 hq9 htx hty hsz hW9 hb8 hnB hkB hvB
              have HPy := Lib.hid (HP8.out.kept (by have := HBl.out; rw [HW9.out.1] at this; exact this))
              have HAy := Lib.hid (HA8.out.kept (by have := HBl.out; rw [HW9.out.1] at this; exact this))
              have HBy := Lib.hid (HB8.out.kept (by have := HBl.out; rw [HW9.out.1] at this; exact this))
              have hai := HAy.out.is
              rw [HPn.out] at hai
              have hsa := same7_of (w := W9) hai (zeroIs _ _) (by unfold Nd.Short; simp) rfl
              have HTxE := Lib.hid HTx.out
              have HTyE := Lib.hid HTy.out
              have HBi := Lib.hid HBy.out
              have Hsa := Lib.hid hsa
              clear hsa hai
              go_wp2_with fail
              rw [← HW9.out.1, ← HW9.out.2]
              refine Hsa.out.mono ?_
              rintro e wm ⟨rfl, hbm⟩
              have hbi := HBi.out.kept hbm
              obtain ⟨x0, x1, x2, x3⟩ := hbi.box
              obtain ⟨z0, z1, z2, z3⟩ := box_of_top ((hbm.block _ (Array.getElem?_eq_some_iff.1 HTyE.out).1).trans HTyE.out)
              have hbis := hbi.is
              rw [HDn.out] at hbis
              have hsb := same7_of (w := wm) hbis (zeroIs _ _) (by unfold Nd.Short; simp) rfl
              have Hsb := Lib.hid hsb
              have HPm := Lib.hid (HPy.out.kept hbm)
              clear hsb hbis hbi hbm Hsa
              go_wp2_with fail
              refine Hsb.out.mono ?_
              rintro e wl ⟨rfl, hbl⟩
              have hlv := (HPm.out.kept hbl).law.lives
              clear hbl Hsb x0 x1 x2 x3 z0 z1 z2 z3
              go_wp2_with fail
              refine hlv.mono ?_
              rintro e we ⟨rfl, hbe⟩
              go_wp2_with fail
              go_ret
              exact ⟨rfl, hbe⟩
          · obtain ⟨e1, e2, e3⟩ := HPn'.out (by omega)
            subst e1 e2
            have HPn := Lib.hid e3
            clear e3
            have hb9 := ((Below.refl w8.heap.size w8).alloc (Nat.le_refl _) (.cells #[.bool false, .slice none 0 0, .slice none 0 0, .slice none 0 0] 27)).alloc (by simp) (.cells #[.bool false, .slice none 0 0, .slice none 0 0, .slice none 0 0] 27)
            have hp9 := HP8.out.kept hb9
            have ha9 := HA8.out.kept hb9
            have hq9 := HB8.out.kept hb9
            have htx : ((w8.alloc (.cells #[.bool false, .slice none 0 0, .slice none 0 0, .slice none 0 0] 27)).alloc (.cells #[.bool false, .slice none 0 0, .slice none 0 0, .slice none 0 0] 27)).heap[w8.heap.size]? = some (.cells #[.bool false, .slice none 0 0, .slice none 0 0, .slice none 0 0] 27 (0, 0)) := (heap_alloc_old _ _ (by simp)).trans (heap_alloc_last _ _)
            have hty : ((w8.alloc (.cells #[.bool false, .slice none 0 0, .slice none 0 0, .slice none 0 0] 27)).alloc (.cells #[.bool false, .slice none 0 0, .slice none 0 0, .slice none 0 0] 27)).heap[w8.heap.size + 1]? = some (.cells #[.bool false, .slice none 0 0, .slice none 0 0, .slice none 0 0] 27 (0, 0)) := by
              have := heap_alloc_last (w8.alloc (.cells #[.bool false, .slice none 0 0, .slice none 0 0, .slice none 0 0] 27)) (.cells #[.bool false, .slice none 0 0, .slice none 0 0, .slice none 0 0] 27)
              rw [show (w8.alloc (.cells #[.bool false, .slice none 0 0, .slice none 0 0, .slice none 0 0] 27)).heap.size = w8.heap.size + 1 by simp] at this
              exact this
            have hsz : ((w8.alloc (.cells #[.bool false, .slice none 0 0, .slice none 0 0, .slice none 0 0] 27)).alloc (.cells #[.bool false, .slice none 0 0, .slice none 0 0, .slice none 0 0] 27)).heap.size = w8.heap.size + 1 + 1 := by simp
            obtain ⟨x0, x1, x2, x3⟩ := ha9.box
            obtain ⟨z0, z1, z2, z3⟩ := box_of_top htx
            obtain ⟨W9, hW9⟩ : ∃ X, X = (w8.alloc (.cells #[.bool false, .slice none 0 0, .slice none 0 0, .slice none 0 0] 27)).alloc (.cells #[.bool false, .slice none 0 0, .slice none 0 0, .slice none 0 0] 27) := ⟨_, rfl⟩
            obtain ⟨b8, hb8⟩ : ∃ x, x = w8.heap.size := ⟨_, rfl⟩
            have hnB := (HP8.out.law.is.below hb9)
            have hkB := (HP8.out.key.below hb9)
            have hvB := (HP8.out.val.below hb9)
            rw [← hW9] at hb9 hp9 ha9 hq9 htx hty hsz hnB hkB hvB
            rw [← hb8] at hb9 htx hty hsz hnB hkB hvB
            have HW9 := Lib.hid (And.intro hb8 hW9)
            have HP9 := Lib.hid hp9
            have HA9 := Lib.hid ha9
            have HB9 := Lib.hid hq9
            have HTx := Lib.hid htx
            have HTy := Lib.hid hty
            have HSz := Lib.hid hsz
            have HBl := Lib.hid hb9
            have HnB := Lib.hid (And.intro hnB (And.intro hkB hvB))
            clear hb9 hp9 ha9 hq9 htx hty hsz hW9 hb8 hnB hkB hvB
            have HPy := Lib.hid (HP8.out.kept (by have := HBl.out; rw [HW9.out.1] at this; exact this))
            have HAy := Lib.hid (HA8.out.kept (by have := HBl.out; rw [HW9.out.1] at this; exact this))
            have HBy := Lib.hid (HB8.out.kept (by have := HBl.out; rw [HW9.out.1] at this; exact this))
            have hai := HAy.out.is
            rw [HPn.out] at hai
            have hsa := same7_of (w := W9) hai (zeroIs _ _) (by unfold Nd.Short; simp) rfl
            have HTxE := Lib.hid HTx.out
            have HTyE := Lib.hid HTy.out
            have HBi := Lib.hid HBy.out
            have Hsa := Lib.hid hsa
            clear hsa hai
            go_wp2_with fail
            rw [← HW9.out.1, ← HW9.out.2]
            refine Hsa.out.mono ?_
            rintro e wm ⟨rfl, hbm⟩
            have hbi := HBi.out.kept hbm
            obtain ⟨x0, x1, x2, x3⟩ := hbi.box
            obtain ⟨z0, z1, z2, z3⟩ := box_of_top ((hbm.block _ (Array.getElem?_eq_some_iff.1 HTyE.out).1).trans HTyE.out)
            have hbis := hbi.is
            rw [HDn.out] at hbis
            have hsb := same7_of (w := wm) hbis (zeroIs _ _) (by unfold Nd.Short; simp) rfl
            have Hsb := Lib.hid hsb
            have HPm := Lib.hid (HPy.out.kept hbm)
            clear hsb hbis hbi hbm Hsa
            go_wp2_with fail
            refine Hsb.out.mono ?_
            rintro e wl ⟨rfl, hbl⟩
            have hlv := (HPm.out.kept hbl).law.lives
            clear hbl Hsb x0 x1 x2 x3 z0 z1 z2 z3
            go_wp2_with fail
            refine hlv.mono ?_
            rintro e we ⟨rfl, hbe⟩
            go_wp2_with fail
            go_ret
            exact ⟨rfl, hbe⟩
        · obtain ⟨e1, e2, e3⟩ := HPn'.out (by omega)
          subst e1 e2
          have HPn := Lib.hid e3
          clear e3
          have hb9 := ((Below.refl w8.heap.size w8).alloc (Nat.le_refl _) (.cells #[.bool false, .slice none 0 0, .slice none 0 0, .slice none 0 0] 27)).alloc (by simp) (.cells #[.bool false, .slice none 0 0, .slice none 0 0, .slice none 0 0] 27)
          have hp9 := HP8.out.kept hb9
          have ha9 := HA8.out.kept hb9
          have hq9 := HB8.out.kept hb9
          have htx : ((w8.alloc (.cells #[.bool false, .slice none 0 0, .slice none 0 0, .slice none 0 0] 27)).alloc (.cells #[.bool false, .slice none 0 0, .slice none 0 0, .slice none 0 0] 27)).heap[w8.heap.size]? = some (.cells #[.bool false, .slice none 0 0, .slice none 0 0, .slice none 0 0] 27 (0, 0)) := (heap_alloc_old _ _ (by simp)).trans (heap_alloc_last _ _)
          have hty : ((w8.alloc (.cells #[.bool false, .slice none 0 0, .slice none 0 0, .slice none 0 0] 27)).alloc (.cells #[.bool false, .slice none 0 0, .slice none 0 0, .slice none 0 0] 27)).heap[w8.heap.size + 1]? = some (.cells #[.bool false, .slice none 0 0, .slice none 0 0, .slice none 0 0] 27 (0, 0)) := by
            have := heap_alloc_last (w8.alloc (.cells #[.bool false, .slice none 0 0, .slice none 0 0, .slice none 0 0] 27)) (.cells #[.bool false, .slice none 0 0, .slice none 0 0, .slice none 0 0] 27)
            rw [show (w8.alloc (.cells #[.bool false, .slice none 0 0, .slice none 0 0, .slice none 0 0] 27)).heap.size = w8.heap.size + 1 by simp] at this
            exact this
          have hsz : ((w8.alloc (.cells #[.bool false, .slice none 0 0, .slice none 0 0, .slice none 0 0] 27)).alloc (.cells #[.bool false, .slice none 0 0, .slice none 0 0, .slice none 0 0] 27)).heap.size = w8.heap.size + 1 + 1 := by simp
          obtain ⟨x0, x1, x2, x3⟩ := ha9.box
          obtain ⟨z0, z1, z2, z3⟩ := box_of_top htx
          obtain ⟨W9, hW9⟩ : ∃ X, X = (w8.alloc (.cells #[.bool false, .slice none 0 0, .slice none 0 0, .slice none 0 0] 27)).alloc (.cells #[.bool false, .slice none 0 0, .slice none 0 0, .slice none 0 0] 27) := ⟨_, rfl⟩
          obtain ⟨b8, hb8⟩ : ∃ x, x = w8.heap.size := ⟨_, rfl⟩
          have hnB := (HP8.out.law.is.below hb9)
          have hkB := (HP8.out.key.below hb9)
          have hvB := (HP8.out.val.below hb9)
          rw [← hW9] at hb9 hp9 ha9 hq9 htx hty hsz hnB hkB hvB
          rw [← hb8] at hb9 htx hty hsz hnB hkB hvB
          have HW9 := Lib.hid (And.intro hb8 hW9)
          have HP9 := Lib.hid hp9
          have HA9 := Lib.hid ha9
          have HB9 := Lib.hid hq9
          have HTx := Lib.hid htx
          have HTy := Lib.hid hty
          have HSz := Lib.hid hsz
          have HBl := Lib.hid hb9
          have HnB := Lib.hid (And.intro hnB (And.intro hkB hvB))
          clear hb9 hp9 ha9 hq9 htx hty hsz hW9 hb8 hnB hkB hvB
          have HPy := Lib.hid (HP8.out.kept (by have := HBl.out; rw [HW9.out.1] at this; exact this))
          have HAy := Lib.hid (HA8.out.kept (by have := HBl.out; rw [HW9.out.1] at this; exact this))
          have HBy := Lib.hid (HB8.out.kept (by have := HBl.out; rw [HW9.out.1] at this; exact this))
          have hai := HAy.out.is
          rw [HPn.out] at hai
          have hsa := same7_of (w := W9) hai (zeroIs _ _) (by unfold Nd.Short; simp) rfl
          have HTxE := Lib.hid HTx.out
          have HTyE := Lib.hid HTy.out
          have HBi := Lib.hid HBy.out
          have Hsa := Lib.hid hsa
          clear hsa hai
          go_wp2_with fail
          rw [← HW9.out.1, ← HW9.out.2]
          refine Hsa.out.mono ?_
          rintro e wm ⟨rfl, hbm⟩
          have hbi := HBi.out.kept hbm
          obtain ⟨x0, x1, x2, x3⟩ := hbi.box
          obtain ⟨z0, z1, z2, z3⟩ := box_of_top ((hbm.block _ (Array.getElem?_eq_some_iff.1 HTyE.out).1).trans HTyE.out)
          have hbis := hbi.is
          rw [HDn.out] at hbis
          have hsb := same7_of (w := wm) hbis (zeroIs _ _) (by unfold Nd.Short; simp) rfl
          have Hsb := Lib.hid hsb
          have HPm := Lib.hid (HPy.out.kept hbm)
          clear hsb hbis hbi hbm Hsa
          go_wp2_with fail
          refine Hsb.out.mono ?_
          rintro e wl ⟨rfl, hbl⟩
          have hlv := (HPm.out.kept hbl).law.lives
          clear hbl Hsb x0 x1 x2 x3 z0 z1 z2 z3
          go_wp2_with fail
          refine hlv.mono ?_
          rintro e we ⟨rfl, hbe⟩
          go_wp2_with fail
          go_ret
          exact ⟨rfl, hbe⟩
      · obtain ⟨hmd, d1, d2, d3⟩ := HDy'.out rfl
        subst d1 d2
        have HDn := Lib.hid d3
        clear d3
        have HMd := Lib.hid hmd
        clear hmd
        by_cases hk1 : 1 ≤ kl
        · by_cases hk2 : kl ≤ 24
          · by_cases hv1 : vl ≤ 24
            · obtain ⟨hmp, e1, e2, e3⟩ := HPy'.out ⟨hk1, hk2, hv1⟩
              subst e1 e2
              have HPn := Lib.hid e3
              have HMp := Lib.hid hmp
              clear e3 hmp
              have hvd : decide ((vl : Int) ≤ 24) = true := by simp; omega
              have hb9 := ((Below.refl w8.heap.size w8).alloc (Nat.le_refl _) (.cells #[.bool false, .slice none 0 0, .slice none 0 0, .slice none 0 0] 27)).alloc (by simp) (.cells #[.bool false, .slice none 0 0, .slice none 0 0, .slice none 0 0] 27)
              have hp9 := HP8.out.kept hb9
              have ha9 := HA8.out.kept hb9
              have hq9 := HB8.out.kept hb9
              have htx : ((w8.alloc (.cells #[.bool false, .slice none 0 0, .slice none 0 0, .slice none 0 0] 27)).alloc (.cells #[.bool false, .slice none 0 0, .slice none 0 0, .slice none 0 0] 27)).heap[w8.heap.size]? = some (.cells #[.bool false, .slice none 0 0, .slice none 0 0, .slice none 0 0] 27 (0, 0)) := (heap_alloc_old _ _ (by simp)).trans (heap_alloc_last _ _)
              have hty : ((w8.alloc (.cells #[.bool false, .slice none 0 0, .slice none 0 0, .slice none 0 0] 27)).alloc (.cells #[.bool false, .slice none 0 0, .slice none 0 0, .slice none 0 0] 27)).heap[w8.heap.size + 1]? = some (.cells #[.bool false, .slice none 0 0, .slice none 0 0, .slice none 0 0] 27 (0, 0)) := by
                have := heap_alloc_last (w8.alloc (.cells #[.bool false, .slice none 0 0, .slice none 0 0, .slice none 0 0] 27)) (.cells #[.bool false, .slice none 0 0, .slice none 0 0, .slice none 0 0] 27)
                rw [show (w8.alloc (.cells #[.bool false, .slice none 0 0, .slice none 0 0, .slice none 0 0] 27)).heap.size = w8.heap.size + 1 by simp] at this
                exact this
              have hsz : ((w8.alloc (.cells #[.bool false, .slice none 0 0, .slice none 0 0, .slice none 0 0] 27)).alloc (.cells #[.bool false, .slice none 0 0, .slice none 0 0, .slice none 0 0] 27)).heap.size = w8.heap.size + 1 + 1 := by simp
              obtain ⟨x0, x1, x2, x3⟩ := hp9.law.box
              rw [← HL.out] at x0
              obtain ⟨W9, hW9⟩ : ∃ X, X = (w8.alloc (.cells #[.bool false, .slice none 0 0, .slice none 0 0, .slice none 0 0] 27)).alloc (.cells #[.bool false, .slice none 0 0, .slice none 0 0, .slice none 0 0] 27) := ⟨_, rfl⟩
              obtain ⟨b8, hb8⟩ : ∃ x, x = w8.heap.size := ⟨_, rfl⟩
              have hnB := (HP8.out.law.is.below hb9)
              have hkB := (HP8.out.key.below hb9)
              have hvB := (HP8.out.val.below hb9)
              rw [← hW9] at hb9 hp9 ha9 hq9 htx hty hsz hnB hkB hvB
              rw [← hb8] at hb9 htx hty hsz hnB hkB hvB
              have HW9 := Lib.hid (And.intro hb8 hW9)
              have HP9 := Lib.hid hp9
              have HA9 := Lib.hid ha9
              have HB9 := Lib.hid hq9
              have HTx := Lib.hid htx
              have HTy := Lib.hid hty
              have HSz := Lib.hid hsz
              have HBl := Lib.hid hb9
              have HnB := Lib.hid (And.intro hnB (And.intro hkB hvB))
              clear hb9 hp9 ha9 hq9 htx hty hsz hW9 hb8 hnB hkB hvB
              go_wp2_with fail
              rw [← HW9.out.1, ← HW9.out.2]
              have hcl := rput_any (B0 := b8) (by have := HSz.out; omega) HnB.out.1 HnB.out.2.1 HnB.out.2.2 HSh.out HMp.out
              refine hcl.mono ?_
              rintro e wx ⟨Kx, Vx, rfl, hkx, hvx, hbx⟩
              obtain ⟨X1, p1, q1, X2, p2, q2, -, -, -, rfl, rfl, -⟩ := (show NdIs wx wx.heap.size Kx Vx (.slice none 0 0) ⟨true, (m.put key val).keys, (m.put key val).vals, []⟩ from ⟨hkx.rd, hvx.rd, Rd.nil _ _⟩).slices
              have htx := (hbx.block _ (by have := HSz.out; omega)).trans HTx.out
              have hty := (hbx.block _ (by have := HSz.out; omega)).trans HTy.out
              obtain ⟨y0, y1, y2, y3, f0, f1, f2, f3⟩ := out_cells htx
              obtain ⟨Wx, hWx⟩ : ∃ X, X = store4 wx b8 true (.slice X1 p1 q1) (.slice X2 p2 q2) (.slice none 0 0) := ⟨_, rfl⟩
              have hkx2 := hkx.store4 (q := b8) (b := true) (K := .slice X1 p1 q1) (V := .slice X2 p2 q2) (D := .slice none 0 0) (Nat.le_refl _) (by have := HSz.out; omega)
              have hvx2 := hvx.store4 (q := b8) (b := true) (K := .slice X1 p1 q1) (V := .slice X2 p2 q2) (D := .slice none 0 0) (Nat.le_refl _) (by have := HSz.out; omega)
              have htx2 := store4_top (lf := true) (K := .slice X1 p1 q1) (V := .slice X2 p2 q2) (D := .slice none 0 0) htx
              have hty2 := (store4_other (w := wx) (N := b8) (lf := true) (K := .slice X1 p1 q1) (V := .slice X2 p2 q2) (D := .slice none 0 0) (show b8 + 1 ≠ b8 by omega)).trans hty
              have hbl2 := (HBl.out.trans (hbx.mono (by have := HSz.out; omega))).trans (store4_below (w := wx) (N := b8) (lf := true) (K := .slice X1 p1 q1) (V := .slice X2 p2 q2) (D := .slice none 0 0) (Nat.le_refl _))
              have hsx : W9.heap.size ≤ Wx.heap.size := by rw [hWx, store4_size]; exact hbx.size
              rw [← hWx] at hkx2 hvx2 htx2 hty2 hbl2
              have HOx := Lib.hid (And.intro hkx2 hvx2)
              have HTx2 := Lib.hid htx2
              have HTy2 := Lib.hid hty2
              have HBl2 := Lib.hid hbl2
              have HSx := Lib.hid hsx
              have HWx := Lib.hid hWx
              clear hcl hkx hvx hbx htx hty hkx2 hvx2 htx2 hty2 hbl2 hsx x0 x1 x2 x3
              have HPy := Lib.hid (HP8.out.kept (by have := HBl2.out; rw [HW9.out.1] at this; exact this))
              have HAy := Lib.hid (HA8.out.kept (by have := HBl2.out; rw [HW9.out.1] at this; exact this))
              have HBy := Lib.hid (HB8.out.kept (by have := HBl2.out; rw [HW9.out.1] at this; exact this))
              obtain ⟨x0, x1, x2, x3⟩ := HPy.out.law.box
              rw [← HL.out] at x0
              simp only [hWx, store4] at x0 x1 x2 x3
              clear hWx
              go_wp2_with fail
              have hWx := HWx.out
              unfold store4 at hWx
              rw [← hWx]
              clear hWx HWx y0 y1 y2 y3 f0 f1 f2 f3 x0 x1 x2 x3
              skip
              have hcl := rdel_any (B0 := b8) (w := Wx) (by have := HBl2.out.size; have := HW9.out.1; omega) (by have h := HP8B.out.1 _ (by rw [← HW9.out.1]; exact HBl2.out); rw [HW9.out.1]; exact h) (by have h := HP8B.out.2 _ (by rw [← HW9.out.1]; exact HBl2.out); rw [HW9.out.1]; exact h) HSh.out HMd.out
              refine hcl.mono ?_
              rintro e wy ⟨Ky, Vy, rfl, hky, hvy, hby⟩
              obtain ⟨Y1, r1, s1, Y2, r2, s2, -, -, -, rfl, rfl, -⟩ := (show NdIs wy wy.heap.size Ky Vy (.slice none 0 0) ⟨true, (m.del key).keys, (m.del key).vals, []⟩ from ⟨hky.rd, hvy.rd, Rd.nil _ _⟩).slices
              have hwsz : b8 + 1 + 1 ≤ Wx.heap.size := by have := HSz.out; have := HSx.out; omega
              have htx := (hby.block _ (by omega)).trans HTx2.out
              have hty := (hby.block _ (by omega)).trans HTy2.out
              obtain ⟨y0, y1, y2, y3, f0, f1, f2, f3⟩ := out_cells hty
              obtain ⟨Wy, hWy⟩ : ∃ X, X = store4 wy (b8 + 1) true (.slice Y1 r1 s1) (.slice Y2 r2 s2) (.slice none 0 0) := ⟨_, rfl⟩
              have hky2 := hky.store4 (q := b8 + 1) (b := true) (K := .slice Y1 r1 s1) (V := .slice Y2 r2 s2) (D := .slice none 0 0) (by omega) (by omega)
              have hvy2 := hvy.store4 (q := b8 + 1) (b := true) (K := .slice Y1 r1 s1) (V := .slice Y2 r2 s2) (D := .slice none 0 0) (by omega) (by omega)
              have hty2 := store4_top (lf := true) (K := .slice Y1 r1 s1) (V := .slice Y2 r2 s2) (D := .slice none 0 0) hty
              have htx2 := (store4_other (w := wy) (N := b8 + 1) (lf := true) (K := .slice Y1 r1 s1) (V := .slice Y2 r2 s2) (D := .slice none 0 0) (show b8 ≠ b8 + 1 by omega)).trans htx
              have hbl2 := (HBl2.out.trans (hby.mono (by omega))).trans (store4_below (w := wy) (N := b8 + 1) (lf := true) (K := .slice Y1 r1 s1) (V := .slice Y2 r2 s2) (D := .slice none 0 0) (show b8 ≤ b8 + 1 by omega))
              have hox := And.intro ((HOx.out.1.stays hby (by have := HSz.out; omega)).store4 (q := b8 + 1) (b := true) (K := .slice Y1 r1 s1) (V := .slice Y2 r2 s2) (D := .slice none 0 0) (by omega) (by have := HSz.out; omega)) ((HOx.out.2.stays hby (by have := HSz.out; omega)).store4 (q := b8 + 1) (b := true) (K := .slice Y1 r1 s1) (V := .slice Y2 r2 s2) (D := .slice none 0 0) (by omega) (by have := HSz.out; omega))
              rw [← hWy] at hox
              have HOx2 := Lib.hid hox
              clear hox
              rw [← hWy] at hky2 hvy2 htx2 hty2 hbl2
              have HOy := Lib.hid (And.intro hky2 hvy2)
              have HTx3 := Lib.hid htx2
              have HTy3 := Lib.hid hty2
              have HBl3 := Lib.hid hbl2
              have HWy := Lib.hid hWy
              clear hcl hky hvy hby htx hty hky2 hvy2 htx2 hty2 hbl2 hwsz HPy HAy HBy
              have HPy := Lib.hid (HP8.out.kept (by have := HBl3.out; rw [HW9.out.1] at this; exact this))
              have HAy := Lib.hid (HA8.out.kept (by have := HBl3.out; rw [HW9.out.1] at this; exact this))
              have HBy := Lib.hid (HB8.out.kept (by have := HBl3.out; rw [HW9.out.1] at this; exact this))
              obtain ⟨x0, x1, x2, x3⟩ := HAy.out.box
              obtain ⟨z0, z1, z2, z3⟩ := box_of_top HTx3.out
              simp only [hWy, store4] at x0 x1 x2 x3 z0 z1 z2 z3
              clear hWy
              go_wp2_with fail
              have hWy := HWy.out
              unfold store4 at hWy
              rw [← hWy]
              clear hWy HWy y0 y1 y2 y3 f0 f1 f2 f3 x0 x1 x2 x3 z0 z1 z2 z3
              have hai := HAy.out.is
              rw [HPn.out] at hai
              have hsa := same7_of (w := Wy) hai (show NdIs Wy Wy.heap.size (.slice X1 p1 q1) (.slice X2 p2 q2) (.slice none 0 0) (m.put key val) from ⟨HOx2.out.1.rd, HOx2.out.2.rd, Rd.nil _ _⟩) ⟨Nat.le_trans (putL_len atN_le) (by have := HC.out.k; omega), Nat.le_trans (putL_len (by rw [HVk.out]; exact atN_le)) (by have := HC.out.v; omega), Nat.zero_le _⟩ rfl
              have HTxE := Lib.hid HTx3.out
              have HTyE := Lib.hid HTy3.out
              have HBi := Lib.hid HBy.out
              have HOyE := Lib.hid (And.intro HOy.out.1 HOy.out.2)
              have Hsa := Lib.hid hsa
              clear hsa hai
              skip
              refine Hsa.out.mono ?_
              rintro e wm ⟨rfl, hbm⟩
              have hbi := HBi.out.kept hbm
              obtain ⟨x0, x1, x2, x3⟩ := hbi.box
              obtain ⟨z0, z1, z2, z3⟩ := box_of_top ((hbm.block _ (Array.getElem?_eq_some_iff.1 HTyE.out).1).trans HTyE.out)
              have hbis := hbi.is
              rw [HDn.out] at hbis
              have hoy := And.intro (HOyE.out.1.stays hbm (by have := HSz.out; have := HSx.out; omega)) (HOyE.out.2.stays hbm (by have := HSz.out; have := HSx.out; omega))
              have hsb := same7_of (w := wm) hbis (show NdIs wm wm.heap.size (.slice Y1 r1 s1) (.slice Y2 r2 s2) (.slice none 0 0) (m.del key) from ⟨hoy.1.rd, hoy.2.rd, Rd.nil _ _⟩) ⟨Nat.le_trans delL_len (by have := HC.out.k; omega), Nat.le_trans delL_len (by have := HC.out.v; omega), Nat.zero_le _⟩ rfl
              have Hsb := Lib.hid hsb
              have HPm := Lib.hid (HPy.out.kept hbm)
              clear hsb hbis hbi hbm Hsa
              go_wp2_with fail
              refine Hsb.out.mono ?_
              rintro e wl ⟨rfl, hbl⟩
              have hlv := (HPm.out.kept hbl).law.lives
              clear hbl Hsb x0 x1 x2 x3 z0 z1 z2 z3
              go_wp2_with fail
              refine hlv.mono ?_
              rintro e we ⟨rfl, hbe⟩
              go_wp2_with fail
              go_ret
              exact ⟨rfl, hbe⟩
            · obtain ⟨e1, e2, e3⟩ := HPn'.out (by omega)
              subst e1 e2
              have HPn := Lib.hid e3
              clear e3
              have hvd : decide ((vl : Int) ≤ 24) = false := by simp; omega
              have hb9 := ((Below.refl w8.heap.size w8).alloc (Nat.le_refl _) (.cells #[.bool false, .slice none 0 0, .slice none 0 0, .slice none 0 0] 27)).alloc (by simp) (.cells #[.bool false, .slice none 0 0, .slice none 0 0, .slice none 0 0] 27)
              have hp9 := HP8.out.kept hb9
              have ha9 := HA8.out.kept hb9
              have hq9 := HB8.out.kept hb9
              have htx : ((w8.alloc (.cells #[.bool false, .slice none 0 0, .slice none 0 0, .slice none 0 0] 27)).alloc (.cells #[.bool false, .slice none 0 0, .slice none 0 0, .slice none 0 0] 27)).heap[w8.heap.size]? = some (.cells #[.bool false, .slice none 0 0, .slice none 0 0, .slice none 0 0] 27 (0, 0)) := (heap_alloc_old _ _ (by simp)).trans (heap_alloc_last _ _)
              have hty : ((w8.alloc (.cells #[.bool false, .slice none 0 0, .slice none 0 0, .slice none 0 0] 27)).alloc (.cells #[.bool false, .slice none 0 0, .slice none 0 0, .slice none 0 0] 27)).heap[w8.heap.size + 1]? = some (.cells #[.bool false, .slice none 0 0, .slice none 0 0, .slice none 0 0] 27 (0, 0)) := by
                have := heap_alloc_last (w8.alloc (.cells #[.bool false, .slice none 0 0, .slice none 0 0, .slice none 0 0] 27)) (.cells #[.bool false, .slice none 0 0, .slice none 0 0, .slice none 0 0] 27)
                rw [show (w8.alloc (.cells #[.bool false, .slice none 0 0, .slice none 0 0, .slice none 0 0] 27)).heap.size = w8.heap.size + 1 by simp] at this
                exact this
              have hsz : ((w8.alloc (.cells #[.bool false, .slice none 0 0, .slice none 0 0, .slice none 0 0] 27)).alloc (.cells #[.bool false, .slice none 0 0, .slice none 0 0, .slice none 0 0] 27)).heap.size = w8.heap.size + 1 + 1 := by simp
              obtain ⟨x0, x1, x2, x3⟩ := hp9.law.box
              rw [← HL.out] at x0
              obtain ⟨W9, hW9⟩ : ∃ X, X = (w8.alloc (.cells #[.bool false, .slice none 0 0, .slice none 0 0, .slice none 0 0] 27)).alloc (.cells #[.bool false, .slice none 0 0, .slice none 0 0, .slice none 0 0] 27) := ⟨_, rfl⟩
              obtain ⟨b8, hb8⟩ : ∃ x, x = w8.heap.size := ⟨_, rfl⟩
              have hnB := (HP8.out.law.is.below hb9)
              have hkB := (HP8.out.key.below hb9)
              have hvB := (HP8.out.val.below hb9)
              rw [← hW9] at hb9 hp9 ha9 hq9 htx hty hsz hnB hkB hvB
              rw [← hb8] at hb9 htx hty hsz hnB hkB hvB
              have HW9 := Lib.hid (And.intro hb8 hW9)
              have HP9 := Lib.hid hp9
              have HA9 := Lib.hid ha9
              have HB9 := Lib.hid hq9
              have HTx := Lib.hid htx
              have HTy := Lib.hid hty
              have HSz := Lib.hid hsz
              have HBl := Lib.hid hb9
              have HnB := Lib.hid (And.intro hnB (And.intro hkB hvB))
              clear hb9 hp9 ha9 hq9 htx hty hsz hW9 hb8 hnB hkB hvB
              have HPy := Lib.hid (HP8.out.kept (by have := HBl.out; rw [HW9.out.1] at this; exact this))
              have HAy := Lib.hid (HA8.out.kept (by have := HBl.out; rw [HW9.out.1] at this; exact this))
              have HBy := Lib.hid (HB8.out.kept (by have := HBl.out; rw [HW9.out.1] at this; exact this))
              go_wp2_with fail
              rw [← HW9.out.1, ← HW9.out.2]
              have hcl := rdel_any (B0 := b8) (w := W9) (by have := HBl.out.size; have := HW9.out.1; omega) (by have h := HP8B.out.1 _ (by rw [← HW9.out.1]; exact HBl.out); rw [HW9.out.1]; exact h) (by have h := HP8B.out.2 _ (by rw [← HW9.out.1]; exact HBl.out); rw [HW9.out.1]; exact h) HSh.out HMd.out
              refine hcl.mono ?_
              rintro e wy ⟨Ky, Vy, rfl, hky, hvy, hby⟩
              obtain ⟨Y1, r1, s1, Y2, r2, s2, -, -, -, rfl, rfl, -⟩ := (show NdIs wy wy.heap.size Ky Vy (.slice none 0 0) ⟨true, (m.del key).keys, (m.del key).vals, []⟩ from ⟨hky.rd, hvy.rd, Rd.nil _ _⟩).slices
              have hwsz : b8 + 1 + 1 ≤ W9.heap.size := by have := HSz.out; omega
              have htx := (hby.block _ (by omega)).trans HTx.out
              have hty := (hby.block _ (by omega)).trans HTy.out
              obtain ⟨y0, y1, y2, y3, f0, f1, f2, f3⟩ := out_cells hty
              obtain ⟨Wy, hWy⟩ : ∃ X, X = store4 wy (b8 + 1) true (.slice Y1 r1 s1) (.slice Y2 r2 s2) (.slice none 0 0) := ⟨_, rfl⟩
              have hky2 := hky.store4 (q := b8 + 1) (b := true) (K := .slice Y1 r1 s1) (V := .slice Y2 r2 s2) (D := .slice none 0 0) (by omega) (by omega)
              have hvy2 := hvy.store4 (q := b8 + 1) (b := true) (K := .slice Y1 r1 s1) (V := .slice Y2 r2 s2) (D := .slice none 0 0) (by omega) (by omega)
              have hty2 := store4_top (lf := true) (K := .slice Y1 r1 s1) (V := .slice Y2 r2 s2) (D := .slice none 0 0) hty
              have htx2 := (store4_other (w := wy) (N := b8 + 1) (lf := true) (K := .slice Y1 r1 s1) (V := .slice Y2 r2 s2) (D := .slice none 0 0) (show b8 ≠ b8 + 1 by omega)).trans htx
              have hbl2 := (HBl.out.trans (hby.mono (by omega))).trans (store4_below (w := wy) (N := b8 + 1) (lf := true) (K := .slice Y1 r1 s1) (V := .slice Y2 r2 s2) (D := .slice none 0 0) (show b8 ≤ b8 + 1 by omega))
              rw [← hWy] at hky2 hvy2 htx2 hty2 hbl2
              have HOy := Lib.hid (And.intro hky2 hvy2)
              have HTx3 := Lib.hid htx2
              have HTy3 := Lib.hid hty2
              have HBl3 := Lib.hid hbl2
              have HWy := Lib.hid hWy
              clear hcl hky hvy hby htx hty hky2 hvy2 htx2 hty2 hbl2 hwsz HPy HAy HBy x0 x1 x2 x3
              have HPy := Lib.hid (HP8.out.kept (by have := HBl3.out; rw [HW9.out.1] at this; exact this))
              have HAy := Lib.hid (HA8.out.kept (by have := HBl3.out; rw [HW9.out.1] at this; exact this))
              have HBy := Lib.hid (HB8.out.kept (by have := HBl3.out; rw [HW9.out.1] at this; exact this))
              obtain ⟨x0, x1, x2, x3⟩ := HAy.out.box
              obtain ⟨z0, z1, z2, z3⟩ := box_of_top HTx3.out
              simp only [hWy, store4] at x0 x1 x2 x3 z0 z1 z2 z3
              clear hWy
              go_wp2_with fail
              have hWy := HWy.out
              unfold store4 at hWy
              rw [← hWy]
              clear hWy HWy y0 y1 y2 y3 f0 f1 f2 f3 x0 x1 x2 x3 z0 z1 z2 z3
              have hai := HAy.out.is
              rw [HPn.out] at hai
              have hsa := same7_of (w := Wy) hai (zeroIs _ _) (by unfold Nd.Short; simp) rfl
              have HTxE := Lib.hid HTx3.out
              have HTyE := Lib.hid HTy3.out
              have HBi := Lib.hid HBy.out
              have HOyE := Lib.hid (And.intro HOy.out.1 HOy.out.2)
              have Hsa := Lib.hid hsa
              clear hsa hai
              skip
              refine Hsa.out.mono ?_
              rintro e wm ⟨rfl, hbm⟩
              have hbi := HBi.out.kept hbm
              obtain ⟨x0, x1, x2, x3⟩ := hbi.box
              obtain ⟨z0, z1, z2, z3⟩ := box_of_top ((hbm.block _ (Array.getElem?_eq_some_iff.1 HTyE.out).1).trans HTyE.out)
              have hbis := hbi.is
              rw [HDn.out] at hbis
              have hoy := And.intro (HOyE.out.1.stays hbm (by have := HSz.out; omega)) (HOyE.out.2.stays hbm (by have := HSz.out; omega))
              have hsb := same7_of (w := wm) hbis (show NdIs wm wm.heap.size (.slice Y1 r1 s1) (.slice Y2 r2 s2) (.slice none 0 0) (m.del key) from ⟨hoy.1.rd, hoy.2.rd, Rd.nil _ _⟩) ⟨Nat.le_trans delL_len (by have := HC.out.k; omega), Nat.le_trans delL_len (by have := HC.out.v; omega), Nat.zero_le _⟩ rfl
              have Hsb := Lib.hid hsb
              have HPm := Lib.hid (HPy.out.kept hbm)
              clear hsb hbis hbi hbm Hsa
              go_wp2_with fail
              refine Hsb.out.mono ?_
              rintro e wl ⟨rfl, hbl⟩
              have hlv := (HPm.out.kept hbl).law.lives
              clear hbl Hsb x0 x1 x2 x3 z0 z1 z2 z3
              go_wp2_with fail
              refine hlv.mono ?_
              rintro e we ⟨rfl, hbe⟩
              go_wp2_with fail
              go_ret
              exact ⟨rfl, hbe⟩
          · obtain ⟨e1, e2, e3⟩ := HPn'.out (by omega)
            subst e1 e2
            have HPn := Lib.hid e3
            clear e3
            have hb9 := ((Below.refl w8.heap.size w8).alloc (Nat.le_refl _) (.cells #[.bool false, .slice none 0 0, .slice none 0 0, .slice none 0 0] 27)).alloc (by simp) (.cells #[.bool false, .slice none 0 0, .slice none 0 0, .slice none 0 0] 27)
            have hp9 := HP8.out.kept hb9
            have ha9 := HA8.out.kept hb9
            have hq9 := HB8.out.kept hb9
            have htx : ((w8.alloc (.cells #[.bool false, .slice none 0 0, .slice none 0 0, .slice none 0 0] 27)).alloc (.cells #[.bool false, .slice none 0 0, .slice none 0 0, .slice none 0 0] 27)).heap[w8.heap.size]? = some (.cells #[.bool false, .slice none 0 0, .slice none 0 0, .slice none 0 0] 27 (0, 0)) := (heap_alloc_old _ _ (by simp)).trans (heap_alloc_last _ _)
            have hty : ((w8.alloc (.cells #[.bool false, .slice none 0 0, .slice none 0 0, .slice none 0 0] 27)).alloc (.cells #[.bool false, .slice none 0 0, .slice none 0 0, .slice none 0 0] 27)).heap[w8.heap.size + 1]? = some (.cells #[.bool false, .slice none 0 0, .slice none 0 0, .slice none 0 0] 27 (0, 0)) := by
              have := heap_alloc_last (w8.alloc (.cells #[.bool false, .slice none 0 0, .slice none 0 0, .slice none 0 0] 27)) (.cells #[.bool false, .slice none 0 0, .slice none 0 0, .slice none 0 0] 27)
              rw [show (w8.alloc (.cells #[.bool false, .slice none 0 0, .slice none 0 0, .slice none 0 0] 27)).heap.size = w8.heap.size + 1 by simp] at this
              exact this
            have hsz : ((w8.alloc (.cells #[.bool false, .slice none 0 0, .slice none 0 0, .slice none 0 0] 27)).alloc (.cells #[.bool false, .slice none 0 0, .slice none 0 0, .slice none 0 0] 27)).heap.size = w8.heap.size + 1 + 1 := by simp
            obtain ⟨x0, x1, x2, x3⟩ := hp9.law.box
            rw [← HL.out] at x0
            obtain ⟨W9, hW9⟩ : ∃ X, X = (w8.alloc (.cells #[.bool false, .slice none 0 0, .slice none 0 0, .slice none 0 0] 27)).alloc (.cells #[.bool false, .slice none 0 0, .slice none 0 0, .slice none 0 0] 27) := ⟨_, rfl⟩
            obtain ⟨b8, hb8⟩ : ∃ x, x = w8.heap.size := ⟨_, rfl⟩
            have hnB := (HP8.out.law.is.below hb9)
            have hkB := (HP8.out.key.below hb9)
            have hvB := (HP8.out.val.below hb9)
            rw [← hW9] at hb9 hp9 ha9 hq9 htx hty hsz hnB hkB hvB
            rw [← hb8] at hb9 htx hty hsz hnB hkB hvB
            have HW9 := Lib.hid (And.intro hb8 hW9)
            have HP9 := Lib.hid hp9
            have HA9 := Lib.hid ha9
            have HB9 := Lib.hid hq9
            have HTx := Lib.hid htx
            have HTy := Lib.hid hty
            have HSz := Lib.hid hsz
            have HBl := Lib.hid hb9
            have HnB := Lib.hid (And.intro hnB (And.intro hkB hvB))
            clear hb9 hp9 ha9 hq9 htx hty hsz hW9 hb8 hnB hkB hvB
            have HPy := Lib.hid (HP8.out.kept (by have := HBl.out; rw [HW9.out.1] at this; exact this))
            have HAy := Lib.hid (HA8.out.kept (by have := HBl.out; rw [HW9.out.1] at this; exact this))
            have HBy := Lib.hid (HB8.out.kept (by have := HBl.out; rw [HW9.out.1] at this; exact this))
            go_wp2_with fail
            rw [← HW9.out.1, ← HW9.out.2]
            have hcl := rdel_any (B0 := b8) (w := W9) (by have := HBl.out.size; have := HW9.out.1; omega) (by have h := HP8B.out.1 _ (by rw [← HW9.out.1]; exact HBl.out); rw [HW9.out.1]; exact h) (by have h := HP8B.out.2 _ (by rw [← HW9.out.1]; exact HBl.out); rw [HW9.out.1]; exact h) HSh.out HMd.out
            refine hcl.mono ?_
            rintro e wy ⟨Ky, Vy, rfl, hky, hvy, hby⟩
            obtain ⟨Y1, r1, s1, Y2, r2, s2, -, -, -, rfl, rfl, -⟩ := (show NdIs wy wy.heap.size Ky Vy (.slice none 0 0) ⟨true, (m.del key).keys, (m.del key).vals, []⟩ from ⟨hky.rd, hvy.rd, Rd.nil _ _⟩).slices
            have hwsz : b8 + 1 + 1 ≤ W9.heap.size := by have := HSz.out; omega
            have htx := (hby.block _ (by omega)).trans HTx.out
            have hty := (hby.block _ (by omega)).trans HTy.out
            obtain ⟨y0, y1, y2, y3, f0, f1, f2, f3⟩ := out_cells hty
            obtain ⟨Wy, hWy⟩ : ∃ X, X = store4 wy (b8 + 1) true (.slice Y1 r1 s1) (.slice Y2 r2 s2) (.slice none 0 0) := ⟨_, rfl⟩
            have hky2 := hky.store4 (q := b8 + 1) (b := true) (K := .slice Y1 r1 s1) (V := .slice Y2 r2 s2) (D := .slice none 0 0) (by omega) (by omega)
            have hvy2 := hvy.store4 (q := b8 + 1) (b := true) (K := .slice Y1 r1 s1) (V := .slice Y2 r2 s2) (D := .slice none 0 0) (by omega) (by omega)
            have hty2 := store4_top (lf := true) (K := .slice Y1 r1 s1) (V := .slice Y2 r2 s2) (D := .slice none 0 0) hty
            have htx2 := (store4_other (w := wy) (N := b8 + 1) (lf := true) (K := .slice Y1 r1 s1) (V := .slice Y2 r2 s2) (D := .slice none 0 0) (show b8 ≠ b8 + 1 by omega)).trans htx
            have hbl2 := (HBl.out.trans (hby.mono (by omega))).trans (store4_below (w := wy) (N := b8 + 1) (lf := true) (K := .slice Y1 r1 s1) (V := .slice Y2 r2 s2) (D := .slice none 0 0) (show b8 ≤ b8 + 1 by omega))
            rw [← hWy] at hky2 hvy2 htx2 hty2 hbl2
            have HOy := Lib.hid (And.intro hky2 hvy2)
            have HTx3 := Lib.hid htx2
            have HTy3 := Lib.hid hty2
            have HBl3 := Lib.hid hbl2
            have HWy := Lib.hid hWy
            clear hcl hky hvy hby htx hty hky2 hvy2 htx2 hty2 hbl2 hwsz HPy HAy HBy x0 x1 x2 x3
            have HPy := Lib.hid (HP8.out.kept (by have := HBl3.out; rw [HW9.out.1] at this; exact this))
            have HAy := Lib.hid (HA8.out.kept (by have := HBl3.out; rw [HW9.out.1] at this; exact this))
            have HBy := Lib.hid (HB8.out.kept (by have := HBl3.out; rw [HW9.out.1] at this; exact this))
            obtain ⟨x0, x1, x2, x3⟩ := HAy.out.box
            obtain ⟨z0, z1, z2, z3⟩ := box_of_top HTx3.out
            simp only [hWy, store4] at x0 x1 x2 x3 z0 z1 z2 z3
            clear hWy
            go_wp2_with fail
            have hWy := HWy.out
            unfold store4 at hWy
            rw [← hWy]
            clear hWy HWy y0 y1 y2 y3 f0 f1 f2 f3 x0 x1 x2 x3 z0 z1 z2 z3
            have hai := HAy.out.is
            rw [HPn.out] at hai
            have hsa := same7_of (w := Wy) hai (zeroIs _ _) (by unfold Nd.Short; simp) rfl
            have HTxE := Lib.hid HTx3.out
            have HTyE := Lib.hid HTy3.out
            have HBi := Lib.hid HBy.out
            have HOyE := Lib.hid (And.intro HOy.out.1 HOy.out.2)
            have Hsa := Lib.hid hsa
            clear hsa hai
            skip
            refine Hsa.out.mono ?_
            rintro e wm ⟨rfl, hbm⟩
            have hbi := HBi.out.kept hbm
            obtain ⟨x0, x1, x2, x3⟩ := hbi.box
            obtain ⟨z0, z1, z2, z3⟩ := box_of_top ((hbm.block _ (Array.getElem?_eq_some_iff.1 HTyE.out).1).trans HTyE.out)
            have hbis := hbi.is
            rw [HDn.out] at hbis
            have hoy := And.intro (HOyE.out.1.stays hbm (by have := HSz.out; omega)) (HOyE.out.2.stays hbm (by have := HSz.out; omega))
            have hsb := same7_of (w := wm) hbis (show NdIs wm wm.heap.size (.slice Y1 r1 s1) (.slice Y2 r2 s2) (.slice none 0 0) (m.del key) from ⟨hoy.1.rd, hoy.2.rd, Rd.nil _ _⟩) ⟨Nat.le_trans delL_len (by have := HC.out.k; omega), Nat.le_trans delL_len (by have := HC.out.v; omega), Nat.zero_le _⟩ rfl
            have Hsb := Lib.hid hsb
            have HPm := Lib.hid (HPy.out.kept hbm)
            clear hsb hbis hbi hbm Hsa
            go_wp2_with fail
            refine Hsb.out.mono ?_
            rintro e wl ⟨rfl, hbl⟩
            have hlv := (HPm.out.kept hbl).law.lives
            clear hbl Hsb x0 x1 x2 x3 z0 z1 z2 z3
            go_wp2_with fail
            refine hlv.mono ?_
            rintro e we ⟨rfl, hbe⟩
            go_wp2_with fail
            go_ret
            exact ⟨rfl, hbe⟩
        · obtain ⟨e1, e2, e3⟩ := HPn'.out (by omega)
          subst e1 e2
          have HPn := Lib.hid e3
          clear e3
          have hb9 := ((Below.refl w8.heap.size w8).alloc (Nat.le_refl _) (.cells #[.bool false, .slice none 0 0, .slice none 0 0, .slice none 0 0] 27)).alloc (by simp) (.cells #[.bool false, .slice none 0 0, .slice none 0 0, .slice none 0 0] 27)
          have hp9 := HP8.out.kept hb9
          have ha9 := HA8.out.kept hb9
          have hq9 := HB8.out.kept hb9
          have htx : ((w8.alloc (.cells #[.bool false, .slice none 0 0, .slice none 0 0, .slice none 0 0] 27)).alloc (.cells #[.bool false, .slice none 0 0, .slice none 0 0, .slice none 0 0] 27)).heap[w8.heap.size]? = some (.cells #[.bool false, .slice none 0 0, .slice none 0 0, .slice none 0 0] 27 (0, 0)) := (heap_alloc_old _ _ (by simp)).trans (heap_alloc_last _ _)
          have hty : ((w8.alloc (.cells #[.bool false, .slice none 0 0, .slice none 0 0, .slice none 0 0] 27)).alloc (.cells #[.bool false, .slice none 0 0, .slice none 0 0, .slice none 0 0] 27)).heap[w8.heap.size + 1]? = some (.cells #[.bool false, .slice none 0 0, .slice none 0 0, .slice none 0 0] 27 (0, 0)) := by
            have := heap_alloc_last (w8.alloc (.cells #[.bool false, .slice none 0 0, .slice none 0 0, .slice none 0 0] 27)) (.cells #[.bool false, .slice none 0 0, .slice none 0 0, .slice none 0 0] 27)
            rw [show (w8.alloc (.cells #[.bool false, .slice none 0 0, .slice none 0 0, .slice none 0 0] 27)).heap.size = w8.heap.size + 1 by simp] at this
            exact this
          have hsz : ((w8.alloc (.cells #[.bool false, .slice none 0 0, .slice none 0 0, .slice none 0 0] 27)).alloc (.cells #[.bool false, .slice none 0 0, .slice none 0 0, .slice none 0 0] 27)).heap.size = w8.heap.size + 1 + 1 := by simp
          obtain ⟨x0, x1, x2, x3⟩ := hp9.law.box
          rw [← HL.out] at x0
          obtain ⟨W9, hW9⟩ : ∃ X, X = (w8.alloc (.cells #[.bool false, .slice none 0 0, .slice none 0 0, .slice none 0 0] 27)).alloc (.cells #[.bool false, .slice none 0 0, .slice none 0 0, .slice none 0 0] 27) := ⟨_, rfl⟩
          obtain ⟨b8, hb8⟩ : ∃ x, x = w8.heap.size := ⟨_, rfl⟩
          have hnB := (HP8.out.law.is.below hb9)
          have hkB := (HP8.out.key.below hb9)
          have hvB := (HP8.out.val.below hb9)
          rw [← hW9] at hb9 hp9 ha9 hq9 htx hty hsz hnB hkB hvB
          rw [← hb8] at hb9 htx hty hsz hnB hkB hvB
          have HW9 := Lib.hid (And.intro hb8 hW9)
          have HP9 := Lib.hid hp9
          have HA9 := Lib.hid ha9
          have HB9 := Lib.hid hq9
          have HTx := Lib.hid htx
          have HTy := Lib.hid hty
          have HSz := Lib.hid hsz
          have HBl := Lib.hid hb9
          have HnB := Lib.hid (And.intro hnB (And.intro hkB hvB))
          clear hb9 hp9 ha9 hq9 htx hty hsz hW9 hb8 hnB hkB hvB
          have HPy := Lib.hid (HP8.out.kept (by have := HBl.out; rw [HW9.out.1] at this; exact this))
          have HAy := Lib.hid (HA8.out.kept (by have := HBl.out; rw [HW9.out.1] at this; exact this))
          have HBy := Lib.hid (HB8.out.kept (by have := HBl.out; rw [HW9.out.1] at this; exact this))
          go_wp2_with fail
          rw [← HW9.out.1, ← HW9.out.2]
          have hcl := rdel_any (B0 := b8) (w := W9) (by have := HBl.out.size; have := HW9.out.1; omega) (by have h := HP8B.out.1 _ (by rw [← HW9.out.1]; exact HBl.out); rw [HW9.out.1]; exact h) (by have h := HP8B.out.2 _ (by rw [← HW9.out.1]; exact HBl.out); rw [HW9.out.1]; exact h) HSh.out HMd.out
          refine hcl.mono ?_
          rintro e wy ⟨Ky, Vy, rfl, hky, hvy, hby⟩
          obtain ⟨Y1, r1, s1, Y2, r2, s2, -, -, -, rfl, rfl, -⟩ := (show NdIs wy wy.heap.size Ky Vy (.slice none 0 0) ⟨true, (m.del key).keys, (m.del key).vals, []⟩ from ⟨hky.rd, hvy.rd, Rd.nil _ _⟩).slices
          have hwsz : b8 + 1 + 1 ≤ W9.heap.size := by have := HSz.out; omega
          have htx := (hby.block _ (by omega)).trans HTx.out
          have hty := (hby.block _ (by omega)).trans HTy.out
          obtain ⟨y0, y1, y2, y3, f0, f1, f2, f3⟩ := out_cells hty
          obtain ⟨Wy, hWy⟩ : ∃ X, X = store4 wy (b8 + 1) true (.slice Y1 r1 s1) (.slice Y2 r2 s2) (.slice none 0 0) := ⟨_, rfl⟩
          have hky2 := hky.store4 (q := b8 + 1) (b := true) (K := .slice Y1 r1 s1) (V := .slice Y2 r2 s2) (D := .slice none 0 0) (by omega) (by omega)
          have hvy2 := hvy.store4 (q := b8 + 1) (b := true) (K := .slice Y1 r1 s1) (V := .slice Y2 r2 s2) (D := .slice none 0 0) (by omega) (by omega)
          have hty2 := store4_top (lf := true) (K := .slice Y1 r1 s1) (V := .slice Y2 r2 s2) (D := .slice none 0 0) hty
          have htx2 := (store4_other (w := wy) (N := b8 + 1) (lf := true) (K := .slice Y1 r1 s1) (V := .slice Y2 r2 s2) (D := .slice none 0 0) (show b8 ≠ b8 + 1 by omega)).trans htx
          have hbl2 := (HBl.out.trans (hby.mono (by omega))).trans (store4_below (w := wy) (N := b8 + 1) (lf := true) (K := .slice Y1 r1 s1) (V := .slice Y2 r2 s2) (D := .slice none 0 0) (show b8 ≤ b8 + 1 by omega))
          rw [← hWy] at hky2 hvy2 htx2 hty2 hbl2
          have HOy := Lib.hid (And.intro hky2 hvy2)
          have HTx3 := Lib.hid htx2
          have HTy3 := Lib.hid hty2
          have HBl3 := Lib.hid hbl2
          have HWy := Lib.hid hWy
          clear hcl hky hvy hby htx hty hky2 hvy2 htx2 hty2 hbl2 hwsz HPy HAy HBy x0 x1 x2 x3
          have HPy := Lib.hid (HP8.out.kept (by have := HBl3.out; rw [HW9.out.1] at this; exact this))
          have HAy := Lib.hid (HA8.out.kept (by have := HBl3.out; rw [HW9.out.1] at this; exact this))
          have HBy := Lib.hid (HB8.out.kept (by have := HBl3.out; rw [HW9.out.1] at this; exact this))
          obtain ⟨x0, x1, x2, x3⟩ := HAy.out.box
          obtain ⟨z0, z1, z2, z3⟩ := box_of_top HTx3.out
          simp only [hWy, store4] at x0 x1 x2 x3 z0 z1 z2 z3
          clear hWy
          go_wp2_with fail
          have hWy := HWy.out
          unfold store4 at hWy
          rw [← hWy]
          clear hWy HWy y0 y1 y2 y3 f0 f1 f2 f3 x0 x1 x2 x3 z0 z1 z2 z3
          have hai := HAy.out.is
          rw [HPn.out] at hai
          have hsa := same7_of (w := Wy) hai (zeroIs _ _) (by unfold Nd.Short; simp) rfl
          have HTxE := Lib.hid HTx3.out
          have HTyE := Lib.hid HTy3.out
          have HBi := Lib.hid HBy.out
          have HOyE := Lib.hid (And.intro HOy.out.1 HOy.out.2)
          have Hsa := Lib.hid hsa
          clear hsa hai
          skip
          refine Hsa.out.mono ?_
          rintro e wm ⟨rfl, hbm⟩
          have hbi := HBi.out.kept hbm
          obtain ⟨x0, x1, x2, x3⟩ := hbi.box
          obtain ⟨z0, z1, z2, z3⟩ := box_of_top ((hbm.block _ (Array.getElem?_eq_some_iff.1 HTyE.out).1).trans HTyE.out)
          have hbis := hbi.is
          rw [HDn.out] at hbis
          have hoy := And.intro (HOyE.out.1.stays hbm (by have := HSz.out; omega)) (HOyE.out.2.stays hbm (by have := HSz.out; omega))
          have hsb := same7_of (w := wm) hbis (show NdIs wm wm.heap.size (.slice Y1 r1 s1) (.slice Y2 r2 s2) (.slice none 0 0) (m.del key) from ⟨hoy.1.rd, hoy.2.rd, Rd.nil _ _⟩) ⟨Nat.le_trans delL_len (by have := HC.out.k; omega), Nat.le_trans delL_len (by have := HC.out.v; omega), Nat.zero_le _⟩ rfl
          have Hsb := Lib.hid hsb
          have HPm := Lib.hid (HPy.out.kept hbm)
          clear hsb hbis hbi hbm Hsa
          go_wp2_with fail
          refine Hsb.out.mono ?_
          rintro e wl ⟨rfl, hbl⟩
          have hlv := (HPm.out.kept hbl).law.lives
          clear hbl Hsb x0 x1 x2 x3 z0 z1 z2 z3
          go_wp2_with fail
          refine hlv.mono ?_
          rintro e we ⟨rfl, hbe⟩
          go_wp2_with fail
          go_ret
          exact ⟨rfl, hbe⟩
end Go.Proofs.Ytceefoopehoalaa
