/-
  What is read of bytes, as data; read of package node, by contract.
-/
import Derived.Test.YtceefoopehoalaaNdR
namespace Go.Proofs.Ytceefoopehoalaa
open Go.RowKit
/-- What is read of k cells, and the place behind it. -/
def rdAt (leaf : Bool) (b : List UInt8) : Nat → Nd × Nat
  | 0 => (⟨leaf, [], [], if leaf then [] else [(getN b 1 2 : Int)]⟩, if leaf then 1 else 3)
  | k + 1 =>
    let r := rdAt leaf b k
    let key := cutT b (r.2 + 1) (getN b r.2 1)
    let m := r.2 + 1 + getN b r.2 1
    if leaf then (⟨leaf, r.1.keys ++ [key], r.1.vals ++ [cutT b (m + 1) (getN b m 1)], r.1.kids⟩, m + 1 + getN b m 1)
    else (⟨leaf, r.1.keys ++ [key], r.1.vals, r.1.kids ++ [(getN b m 2 : Int)]⟩, m + 2)
theorem rdAt_leaf (leaf : Bool) (b : List UInt8) : ∀ k, (rdAt leaf b k).1.leaf = leaf
  | 0 => rfl
  | k + 1 => by unfold rdAt; split <;> rfl
theorem rdAt_len (leaf : Bool) (b : List UInt8) : ∀ k, (rdAt leaf b k).2 ≤ 3 + 512 * k ∧ (rdAt leaf b k).1.keys.length = k ∧ (rdAt leaf b k).1.vals.length ≤ k ∧ (rdAt leaf b k).1.kids.length ≤ k + 1
  | 0 => by unfold rdAt; cases leaf <;> simp
  | k + 1 => by
    obtain ⟨h1, h2, h3, h4⟩ := rdAt_len leaf b k
    have g1 := getN_byte b (rdAt leaf b k).2
    have g2 := getN_byte b ((rdAt leaf b k).2 + 1 + getN b (rdAt leaf b k).2 1)
    unfold rdAt
    cases leaf
    · rw [if_neg (by decide)]
      refine ⟨?_, ?_, ?_, ?_⟩ <;> simp <;> omega
    · rw [if_pos rfl]
      refine ⟨?_, ?_, ?_, ?_⟩ <;> simp <;> omega
/-- read at work: its node, its fields, what it hands back. -/
structure RdW (w0 w : World) (lf : Bool) (bv : Value) (at_ : Nat) (tK tV tD uK uV uD : Value) (ks vs : List (List UInt8)) (ds : List Int) : Prop where
  nm : NdMk w 0 (w0.heap.size + 1 + 1 + 1) (w0.heap.size + 1) lf tK tV tD uK uV uD ks vs ds
  fld : FldAt w (w0.heap.size + 1 + 1) bv at_
  out : w.heap[w0.heap.size]? = some (.cells #[.bool false, .slice none 0 0, .slice none 0 0, .slice none 0 0] 27 (0, 0))
  below : Below w0.heap.size w0 w
section
variable {w0 w w' : World} {lf : Bool} {bv tK tV tD uK uV uD u : Value} {at_ at2 : Nat} {ks vs : List (List UInt8)} {ds : List Int} {l : List UInt8}
theorem RdW.kept (h : RdW w0 w lf bv at_ tK tV tD uK uV uD ks vs ds) (hb : Below (w0.heap.size + 1 + 1 + 1) w w') {uK' uV' uD' : Value} {ks' vs' : List (List UInt8)} {ds' : List Int}
    (hk : NdMk w' 0 (w0.heap.size + 1 + 1 + 1) (w0.heap.size + 1) lf tK tV tD uK' uV' uD' ks' vs' ds') : RdW w0 w' lf bv at_ tK tV tD uK' uV' uD' ks' vs' ds' :=
  ⟨hk, (hb.block (w0.heap.size + 1 + 1) (by omega)).trans h.fld, (hb.block w0.heap.size (by omega)).trans h.out, h.below.trans (hb.mono (by omega))⟩
theorem RdW.drew (h : RdW w0 w lf bv at_ tK tV tD uK uV uD ks vs ds) : RdW w0 w.drew lf bv at_ tK tV tD uK uV uD ks vs ds := ⟨h.nm.drew, h.fld, h.out, h.below.drew⟩
theorem RdW.field (h : RdW w0 w lf bv at_ tK tV tD uK uV uD ks vs ds) (hf : FldAt w' (w0.heap.size + 1 + 1) bv at2) (hg : w.grownBy w' (some (w0.heap.size + 1 + 1))) : RdW w0 w' lf bv at2 tK tV tD uK uV uD ks vs ds :=
  ⟨h.nm.inner hg (by omega) (by omega) (by omega), hf, (hg.block _ (by have := h.nm.le; omega) (by intro e; injection e with e; omega)).trans h.out, h.below.grown hg h.below.size fun k e => by injection e with e; omega⟩
theorem RdW.lit (h : RdW w0 w lf bv at_ tK tV tD uK uV uD ks vs ds) (o : Obj) : RdW w0 (w.alloc o) lf bv at_ tK tV tD uK uV uD ks vs ds :=
  h.kept ((Below.refl _ _).alloc h.nm.le _) (h.nm.alloc o)
theorem RdW.keyed (h : RdW w0 w lf bv at_ tK tV tD uK uV uD ks vs ds) (hu : Mine w' w.heap.size 5 u (cellsB l)) (h' : RdW w0 w' lf bv at2 tK tV tD uK uV uD ks vs ds) (hs : ks.length ≤ 100000) :
    ∃ A n c w2, (Builtin.append_ #[24, 24] 24 #[uK, .slice (some ⟨w'.heap.size, 0, none⟩) 1 1]).run Try.prog (w'.alloc (.cells #[u] 22)) = .ok (.slice A n c) w2 ∧ RdW w0 w2 lf bv at2 tK tV tD (.slice A n c) uV uD (ks ++ [l]) vs ds := by
  obtain ⟨A, n, c, w2, hr, hm, hb⟩ := h'.nm.appK1 (hu.txt h.nm.le) hs
  exact ⟨A, n, c, w2, hr, h'.kept hb hm⟩
theorem RdW.valed (h : RdW w0 w lf bv at_ tK tV tD uK uV uD ks vs ds) (hu : Mine w' w.heap.size 5 u (cellsB l)) (h' : RdW w0 w' lf bv at2 tK tV tD uK uV uD ks vs ds) (hs : vs.length ≤ 100000) :
    ∃ A n c w2, (Builtin.append_ #[24, 24] 24 #[uV, .slice (some ⟨w'.heap.size, 0, none⟩) 1 1]).run Try.prog (w'.alloc (.cells #[u] 22)) = .ok (.slice A n c) w2 ∧ RdW w0 w2 lf bv at2 tK tV tD uK (.slice A n c) uD ks (vs ++ [l]) ds := by
  obtain ⟨A, n, c, w2, hr, hm, hb⟩ := h'.nm.appV1 (hu.txt h.nm.le) hs
  exact ⟨A, n, c, w2, hr, h'.kept hb hm⟩
theorem RdW.kidded (h' : RdW w0 w' lf bv at2 tK tV tD uK uV uD ks vs ds) (i : Int) (hs : ds.length ≤ 100000) :
    ∃ A n c w2, (Builtin.append_ #[25, 25] 25 #[uD, .slice (some ⟨w'.heap.size, 0, none⟩) 1 1]).run Try.prog (w'.alloc (.cells #[.int .i64 i] 3)) = .ok (.slice A n c) w2 ∧ RdW w0 w2 lf bv at2 tK tV tD uK uV (.slice A n c) ks vs (ds ++ [i]) := by
  obtain ⟨A, n, c, w2, hr, hm, hb⟩ := h'.nm.appD1 i hs
  exact ⟨A, n, c, w2, hr, h'.kept hb hm⟩
theorem RdW.set_ (h : RdW w0 w lf bv at_ tK tV tD uK uV uD ks vs ds) {j : Nat} {x : Value} {tK' tV' tD' : Value} (hm : NdMk (w.setCell ⟨w0.heap.size + 1, j, none⟩ x) 0 (w0.heap.size + 1 + 1 + 1) (w0.heap.size + 1) lf tK' tV' tD' uK uV uD ks vs ds) :
    RdW w0 (w.setCell ⟨w0.heap.size + 1, j, none⟩ x) lf bv at_ tK' tV' tD' uK uV uD ks vs ds :=
  ⟨hm, (heap_setCell_other w _ _ x (show w0.heap.size + 1 + 1 ≠ w0.heap.size + 1 by omega)).trans h.fld, (heap_setCell_other w _ _ x (show w0.heap.size ≠ w0.heap.size + 1 by omega)).trans h.out, h.below.setCell (p := ⟨w0.heap.size + 1, j, none⟩) (by show w0.heap.size ≤ w0.heap.size + 1; omega) x⟩
theorem RdW.setK (h : RdW w0 w lf bv at_ tK tV tD uK uV uD ks vs ds) : RdW w0 (w.setCell ⟨w0.heap.size + 1, 1, none⟩ uK) lf bv at_ uK tV tD uK uV uD ks vs ds := h.set_ h.nm.setK
theorem RdW.setV (h : RdW w0 w lf bv at_ tK tV tD uK uV uD ks vs ds) : RdW w0 (w.setCell ⟨w0.heap.size + 1, 2, none⟩ uV) lf bv at_ tK uV tD uK uV uD ks vs ds := h.set_ h.nm.setV
theorem RdW.setD (h : RdW w0 w lf bv at_ tK tV tD uK uV uD ks vs ds) : RdW w0 (w.setCell ⟨w0.heap.size + 1, 3, none⟩ uD) lf bv at_ tK tV uD uK uV uD ks vs ds := h.set_ h.nm.setD
theorem RdW.text {A : Option Addr} {c : Nat} {b : List UInt8} (h : RdW w0 w lf (.slice A b.length c) at_ tK tV tD uK uV uD ks vs ds) (hr : Rd w0 w0.heap.size (.slice A b.length c) (cellsB b)) (hl : b.length ≤ 100000000) (ha : at_ ≤ 900000) :
    Calls Try.prog 50 #[.pointer (some ⟨w0.heap.size + 1 + 1, 0, none⟩)] w fun e w' => ∃ A1 c1, e = .returned (.slice A1 (cutT b (at_ + 1) (getN b at_ 1)).length c1) ∧ Mine w' w.heap.size 5 (.slice A1 (cutT b (at_ + 1) (getN b at_ 1)).length c1) (cellsB (cutT b (at_ + 1) (getN b at_ 1))) ∧ RdW w0 w' lf (.slice A b.length c) (at_ + 1 + getN b at_ 1) tK tV tD uK uV uD ks vs ds := by
  refine (ftext_any h.fld (hr.below h.below) (by omega) hl ha).mono ?_
  rintro e w' ⟨v, rfl, hown, hf, hg⟩
  obtain ⟨A1, c1, rfl⟩ := hown.form
  rw [cellsB_length] at hown ⊢
  exact ⟨A1, c1, rfl, hown, h.field hf hg⟩
theorem RdW.number {A : Option Addr} {c : Nat} {b : List UInt8} {s : Nat} (h : RdW w0 w lf (.slice A b.length c) at_ tK tV tD uK uV uD ks vs ds) (hr : Rd w0 w0.heap.size (.slice A b.length c) (cellsB b)) (h1 : 1 ≤ s) (h2 : s ≤ 2) (ha : at_ ≤ 900000) :
    Calls Try.prog 49 #[.pointer (some ⟨w0.heap.size + 1 + 1, 0, none⟩), .int .i64 (s : Int)] w fun e w' => e = .returned (.int .i64 (getN b at_ s : Nat)) ∧ RdW w0 w' lf (.slice A b.length c) (at_ + s) tK tV tD uK uV uD ks vs ds := by
  refine (fnum_any h.fld (hr.below h.below) h1 h2 (by omega)).mono ?_
  rintro e w' ⟨rfl, hf, hg⟩
  exact ⟨rfl, h.field hf hg⟩
theorem RdW.start {bv : Value} : RdW w0 (((w0.alloc (.cells #[.bool false, .slice none 0 0, .slice none 0 0, .slice none 0 0] 27)).alloc (.cells #[.bool lf, .slice none 0 0, .slice none 0 0, .slice none 0 0] 27)).alloc (.cells #[bv, .int .i64 0] 74)) lf bv 0 (.slice none 0 0) (.slice none 0 0) (.slice none 0 0) (.slice none 0 0) (.slice none 0 0) (.slice none 0 0) [] [] [] := by
  have e1 : (w0.alloc (.cells #[.bool false, .slice none 0 0, .slice none 0 0, .slice none 0 0] 27)).heap.size = w0.heap.size + 1 := by simp
  have e2 : ((w0.alloc (.cells #[.bool false, .slice none 0 0, .slice none 0 0, .slice none 0 0] 27)).alloc (.cells #[.bool lf, .slice none 0 0, .slice none 0 0, .slice none 0 0] 27)).heap.size = w0.heap.size + 1 + 1 := by simp
  refine ⟨⟨?_, OwnT.nil _ _ _, OwnT.nil _ _ _, Mine.nil _ _ _, (fun k h => by cases h), by omega, by omega, by simp⟩, ?_, ?_, ?_⟩
  · rw [heap_alloc_old _ _ (by rw [e2]; omega), ← e1]
    exact heap_alloc_last _ _
  · unfold FldAt
    rw [← e2]
    exact heap_alloc_last _ _
  · rw [heap_alloc_old _ _ (by rw [e2]; omega), heap_alloc_old _ _ (by rw [e1]; omega)]
    exact heap_alloc_last _ _
  · exact (((Below.refl _ _).alloc (Nat.le_refl _) _).alloc (by rw [e1]; omega) _).alloc (by rw [e2]; omega) _
end
set_option maxRecDepth 100000 in
set_option maxHeartbeats 1600000 in
theorem read_leaf (A : Option Addr) (c : Nat) (b : List UInt8) (w : World) (hr : Rd w w.heap.size (.slice A b.length c) (cellsB b)) (hl : b.length ≤ 100000000) :
    Calls Try.prog 28 #[.bool true, .slice A b.length c] w fun e w' => ∃ K V D, e = .returned (ndVal true K V D) ∧ NdNew w' w.heap.size K V D (rdAt true b (getN b 0 1)).1 ∧ Below w.heap.size w w' := by
  have hnum := fun (w1 : World) (h : RdW w w1 true (.slice A b.length c) 0 (.slice none 0 0) (.slice none 0 0) (.slice none 0 0) (.slice none 0 0) (.slice none 0 0) (.slice none 0 0) [] [] []) => h.number (s := 1) hr (by omega) (by omega) (by omega)
  have htext := fun (w1 : World) (at_ : Nat) (tK tV tD : Value) (ks vs : List (List UInt8)) (ds : List Int) (h : RdW w w1 true (.slice A b.length c) at_ tK tV tD tK tV tD ks vs ds) (ha : at_ ≤ 900000) => h.text hr hl ha
  have hstart := RdW.start (w0 := w) (lf := true) (bv := .slice A b.length c)
  have hlen := rdAt_len true b
  have hcnt := getN_byte b 0
  obtain ⟨nb, hbv⟩ : ∃ nb, nb = b.length := ⟨_, rfl⟩
  rw [← hbv] at hnum htext hstart ⊢
  obtain ⟨n, hn⟩ : ∃ n, n = getN b 0 1 := ⟨_, rfl⟩
  rw [← hn] at hnum hcnt ⊢
  have HN0 := Lib.hid (hnum _ hstart)
  have HT := Lib.hid htext
  have HL := Lib.hid hlen
  have HB := Lib.hid hbv
  clear hnum htext hstart hlen hr hl hn hbv
  go_enter Try.func28, Try.ntmps28
  go_wp2_with fail
  refine HN0.out.mono ?_
  rintro e w1 ⟨rfl, h1⟩
  have H1 := Lib.hid h1
  clear h1
  go_wp2_with fail
  go_loopw [22] (fun iv wr => ∃ (k : Nat) (tK tV tD : Value), k ≤ n ∧ iv = .int .i64 (k : Int) ∧ Hid (RdW w wr true (.slice A nb c) (rdAt true b k).2 tK tV tD tK tV tD (rdAt true b k).1.keys (rdAt true b k).1.vals (rdAt true b k).1.kids)) (fun iv _ => n - (intOf iv).toNat)
  case atStart => exact ⟨0, _, _, _, Nat.zero_le _, rfl, H1⟩
  case round =>
    obtain ⟨k, tK, tV, tD, hkn, rfl, HI⟩ := hrel
    by_cases hk : k < n
    · have hl1 := HL.out k
      obtain ⟨at_, hat⟩ : ∃ a, a = (rdAt true b k).2 := ⟨_, rfl⟩
      obtain ⟨ks, hks⟩ : ∃ a, a = (rdAt true b k).1.keys := ⟨_, rfl⟩
      obtain ⟨vs, hvs⟩ : ∃ a, a = (rdAt true b k).1.vals := ⟨_, rfl⟩
      obtain ⟨ds, hds⟩ : ∃ a, a = (rdAt true b k).1.kids := ⟨_, rfl⟩
      have hw := HI.out
      rw [← hat, ← hks, ← hvs, ← hds] at hw hl1
      have hm1 := getN_byte b at_
      have hstep : rdAt true b (k + 1) = (⟨true, ks ++ [cutT b (at_ + 1) (getN b at_ 1)], vs ++ [cutT b (at_ + 1 + getN b at_ 1 + 1) (getN b (at_ + 1 + getN b at_ 1) 1)], ds⟩, at_ + 1 + getN b at_ 1 + 1 + getN b (at_ + 1 + getN b at_ 1) 1) := by rw [hks, hvs, hds, hat]; rfl
      have htx := HT.out wr.drew at_ tK tV tD ks vs ds hw.drew (by omega)
      obtain ⟨La, hLa⟩ : ∃ L, L = cutT b (at_ + 1) (getN b at_ 1) := ⟨_, rfl⟩
      rw [← hLa] at htx hstep
      have HWa := Lib.hid hw
      have HNa := Lib.hid htx
      have HStep := Lib.hid hstep
      have HSha := Lib.hid (show ks.length ≤ 1000 by omega)
      have HShb := Lib.hid (show vs.length ≤ 1000 by omega)
      have HAt := Lib.hid (show at_ + 1 + getN b at_ 1 ≤ 900000 by omega)
      clear hl1 hat hks hvs hds hw hm1 hstep htx HI hLa
      go_wp2_with fail
      have S0 : wr.cell? ⟨w.heap.size + 1, 1, none⟩ = some tK := HWa.out.nm.c1
      refine wp_region_late (S := fun w' => w'.cell? ⟨w.heap.size + 1, 1, none⟩ = some tK) [6] (by kernel_rfl) S0 (fun hHeld => ?_)
      refine' anyU_take0 (i := 0) (oi := ⟨some 24, .fieldAddr 27 (.tmp 5) 1, _, _, _, none⟩) (v := _) rfl (by kernel_rfl) (fun _ _ _ h => h) (Or.inl ⟨by rfl, ?hy1⟩) (by assumption) ?rest1
      case hy1 => (intro w hSw; go_simp <;> with_reducible rfl)
      case rest1 =>
      go_frame
      refine' anyU_take (i := 1) (oi := ⟨some 25, .load 24 (.tmp 24), _, _, _, none⟩) (v := _) rfl (by kernel_rfl) (fun _ _ _ h => h) (Or.inl ⟨by rfl, ?hy2⟩) (by assumption) ?rest2
      case hy2 => (intro w hSw; obtain s1 := hSw; go_simp <;> with_reducible rfl)
      case rest2 =>
      go_frame
      refine anyU_ready (rs := [2]) (by kernel_rfl) (by simp) (AllU.cons (o := ⟨some 26, .call { callee := .value (.func 50), args := #[.tmp 6], argTypes := #[74] }, _, _, _, none⟩) rfl (fun K hK => ?_) (fun h => absurd h (by decide)) AllU.nil)
      rw [if_pos (by rfl)]
      go_simp
      refine (HNa.out).mono ?_
      rintro e wa ⟨A1, c1, rfl, hu, ha⟩
      obtain ⟨Ana, nna, cna, wb, hrb, hb⟩ := HWa.out.drew.keyed hu ha (by have := HSha.out; omega)
      have Sa := Lib.hid (ha.nm.c1)
      have Sb := Lib.hid ((ha.lit (.cells #[.slice A1 La.length c1] 22)).nm.c1)
      have Sc := Lib.hid hb.nm.c1
      have Hrb := Lib.hid hrb
      have Hb := Lib.hid hb
      clear ha hrb hb hu
      dsimp only
      refine hK.out _ _ (fun _ => Sa.out) ?_
      clear hK K
      try go_frame
      refine anyU_ready (rs := [3]) (by kernel_rfl) (by simp) (AllU.cons (o := ⟨some 27, .buildSlice 24 1 #[(0, .tmp 26)], _, _, _, none⟩) rfl (fun K hK => ?_) (fun h => absurd h (by decide)) AllU.nil)
      rw [if_pos (by rfl)]
      go_simp
      refine hK.out _ _ (fun _ => Sb.out) ?_
      clear hK K
      try go_frame
      refine anyU_ready (rs := [4]) (by kernel_rfl) (by simp) (AllU.cons (o := ⟨some 28, .call { callee := .builtin .append, args := #[.tmp 25, .tmp 27], argTypes := #[24, 24] }, _, _, _, none⟩) rfl (fun K hK => ?_) (fun h => absurd h (by decide)) AllU.nil)
      rw [if_pos (by rfl)]
      refine wp_run (.slice Ana nna cna) wb (exec_append (t := 24) (x := .tmp 25) (y := .tmp 27) rfl rfl rfl Hrb.out) ?_
      refine hK.out _ _ (fun _ => Sc.out) ?_
      clear hK K
      go_frame
      have fzb := Hb.out.nm.fz 1
      have cb := Sc.out
      refine' anyU_take0 (i := 5) (oi := ⟨some 29, .fieldAddr 27 (.tmp 5) 1, _, _, _, none⟩) (v := _) rfl (by kernel_rfl) (fun _ _ _ h => h) (Or.inl ⟨by rfl, ?hy3⟩) (by assumption) ?rest3
      case hy3 => (intro w hSw; go_simp <;> with_reducible rfl)
      case rest3 =>
      go_frame
      refine anyU_ready (rs := [6]) (by kernel_rfl) (by simp) (AllU.cons (o := ⟨none, .store 24 (.tmp 29) (.tmp 28), _, _, _, none⟩) rfl (fun K hK => ?_) (fun _ => by kernel_rfl) AllU.nil)
      rw [if_pos (by rfl)]
      go_simp
      refine hK.out _ _ (fun h => absurd h (by decide)) ?_
      clear hK K
      try go_frame
      refine anyU_done (by kernel_rfl) ?_ _
      go_wp2_with fail
      have hw2 := Hb.out.setK
      obtain ⟨wv, hwv⟩ : ∃ wv, wv = wb.setCell ⟨w.heap.size + 1, 1, none⟩ (.slice Ana nna cna) := ⟨_, rfl⟩
      rw [← hwv] at hw2 ⊢
      have htx2 := HT.out wv.drew _ _ _ _ _ _ _ hw2.drew HAt.out
      have hstep := HStep.out
      obtain ⟨Lb, hLb⟩ : ∃ L, L = cutT b (at_ + 1 + getN b at_ 1 + 1) (getN b (at_ + 1 + getN b at_ 1) 1) := ⟨_, rfl⟩
      rw [← hLb] at htx2 hstep
      have HStep2 := Lib.hid hstep
      have HWb := Lib.hid hw2
      have HNb := Lib.hid htx2
      clear hw2 htx2 hwv hstep HStep hLb Hb Sa Sb Sc Hrb fzb cb S0
      have S0 : wv.cell? ⟨w.heap.size + 1, 2, none⟩ = some tV := HWb.out.nm.c2
      refine wp_region_late (S := fun w' => w'.cell? ⟨w.heap.size + 1, 2, none⟩ = some tV) [6] (by kernel_rfl) S0 (fun hHeld => ?_)
      refine' anyU_take0 (i := 0) (oi := ⟨some 31, .fieldAddr 27 (.tmp 5) 2, _, _, _, none⟩) (v := _) rfl (by kernel_rfl) (fun _ _ _ h => h) (Or.inl ⟨by rfl, ?hy4⟩) (by assumption) ?rest4
      case hy4 => (intro w hSw; go_simp <;> with_reducible rfl)
      case rest4 =>
      go_frame
      refine' anyU_take (i := 1) (oi := ⟨some 32, .load 24 (.tmp 31), _, _, _, none⟩) (v := _) rfl (by kernel_rfl) (fun _ _ _ h => h) (Or.inl ⟨by rfl, ?hy5⟩) (by assumption) ?rest5
      case hy5 => (intro w hSw; obtain s1 := hSw; go_simp <;> with_reducible rfl)
      case rest5 =>
      go_frame
      refine anyU_ready (rs := [2]) (by kernel_rfl) (by simp) (AllU.cons (o := ⟨some 33, .call { callee := .value (.func 50), args := #[.tmp 6], argTypes := #[74] }, _, _, _, none⟩) rfl (fun K hK => ?_) (fun h => absurd h (by decide)) AllU.nil)
      rw [if_pos (by rfl)]
      go_simp
      refine (HNb.out).mono ?_
      rintro e wa ⟨A1, c1, rfl, hu, ha⟩
      obtain ⟨Anb, nnb, cnb, wb, hrb, hb⟩ := HWb.out.drew.valed hu ha (by have := HShb.out; omega)
      have Sa := Lib.hid (ha.nm.c2)
      have Sb := Lib.hid ((ha.lit (.cells #[.slice A1 Lb.length c1] 22)).nm.c2)
      have Sc := Lib.hid hb.nm.c2
      have Hrb := Lib.hid hrb
      have Hb := Lib.hid hb
      clear ha hrb hb hu
      dsimp only
      refine hK.out _ _ (fun _ => Sa.out) ?_
      clear hK K
      try go_frame
      refine anyU_ready (rs := [3]) (by kernel_rfl) (by simp) (AllU.cons (o := ⟨some 34, .buildSlice 24 1 #[(0, .tmp 33)], _, _, _, none⟩) rfl (fun K hK => ?_) (fun h => absurd h (by decide)) AllU.nil)
      rw [if_pos (by rfl)]
      go_simp
      refine hK.out _ _ (fun _ => Sb.out) ?_
      clear hK K
      try go_frame
      refine anyU_ready (rs := [4]) (by kernel_rfl) (by simp) (AllU.cons (o := ⟨some 35, .call { callee := .builtin .append, args := #[.tmp 32, .tmp 34], argTypes := #[24, 24] }, _, _, _, none⟩) rfl (fun K hK => ?_) (fun h => absurd h (by decide)) AllU.nil)
      rw [if_pos (by rfl)]
      refine wp_run (.slice Anb nnb cnb) wb (exec_append (t := 24) (x := .tmp 32) (y := .tmp 34) rfl rfl rfl Hrb.out) ?_
      refine hK.out _ _ (fun _ => Sc.out) ?_
      clear hK K
      go_frame
      have fzb := Hb.out.nm.fz 2
      have cb := Sc.out
      refine' anyU_take0 (i := 5) (oi := ⟨some 36, .fieldAddr 27 (.tmp 5) 2, _, _, _, none⟩) (v := _) rfl (by kernel_rfl) (fun _ _ _ h => h) (Or.inl ⟨by rfl, ?hy6⟩) (by assumption) ?rest6
      case hy6 => (intro w hSw; go_simp <;> with_reducible rfl)
      case rest6 =>
      go_frame
      refine anyU_ready (rs := [6]) (by kernel_rfl) (by simp) (AllU.cons (o := ⟨none, .store 24 (.tmp 36) (.tmp 35), _, _, _, none⟩) rfl (fun K hK => ?_) (fun _ => by kernel_rfl) AllU.nil)
      rw [if_pos (by rfl)]
      go_simp
      refine hK.out _ _ (fun h => absurd h (by decide)) ?_
      clear hK K
      try go_frame
      refine anyU_done (by kernel_rfl) ?_ _
      go_wp2_with fail
      have hw3 := Hb.out.setV
      go_roundw
      case rel =>
        refine ⟨k + 1, .slice Ana nna cna, .slice Anb nnb cnb, tD, by omega, by go_num, Lib.hid ?_⟩
        rw [HStep2.out]
        exact hw3
      case measure => simp [intOf]; omega
    · have : k = n := by omega
      subst this
      have hw := HI.out
      obtain ⟨A1, n1, c1, A2, n2, c2, A3, n3, c3, rfl, rfl, rfl⟩ := hw.nm.is.slices
      obtain ⟨x0, x1, x2, x3⟩ := hw.nm.box
      obtain ⟨y0, y1, y2, y3, f0, f1, f2, f3⟩ := out_cells hw.out
      obtain ⟨W, hW⟩ : ∃ W, W = store4 wr w.heap.size true (.slice A1 n1 c1) (.slice A2 n2 c2) (.slice A3 n3 c3) := ⟨_, rfl⟩
      have hbx := box_of_top (store4_top (lf := true) (K := .slice A1 n1 c1) (V := .slice A2 n2 c2) (D := .slice A3 n3 c3) hw.out)
      have hfi := (hw.nm.new rfl).store4 (lf := true) (K := .slice A1 n1 c1) (V := .slice A2 n2 c2) (D := .slice A3 n3 c3) (N := w.heap.size) (by omega)
      have hfb := hw.below.trans (store4_below (w := wr) (lf := true) (K := .slice A1 n1 c1) (V := .slice A2 n2 c2) (D := .slice A3 n3 c3) (Nat.le_refl w.heap.size))
      rw [← hW] at hbx hfi hfb
      obtain ⟨q0, q1, q2, q3⟩ := hbx
      have HFi := Lib.hid hfi
      have HFb := Lib.hid hfb
      have HWW := Lib.hid hW
      clear hw HI hfi hfb hW
      go_wp2_with fail
      have hW := HWW.out
      unfold store4 at hW
      rw [← hW]
      refine bodyPost_ret (v := ndVal true (.slice A1 n1 c1) (.slice A2 n2 c2) (.slice A3 n3 c3)) (by simp [results, Try.results28, go_sem, q0, q1, q2, q3]) rfl ⟨_, _, _, rfl, ?_, HFb.out⟩
      have hx := HFi.out
      have e := rdAt_leaf true b k
      obtain ⟨rd, hrd⟩ : ∃ r, r = (rdAt true b k).1 := ⟨_, rfl⟩
      rw [← hrd] at e hx ⊢
      obtain ⟨l1, l2, l3, l4⟩ := rd
      dsimp only at e hx
      subst e
      exact (NdNew.mk hx.keys hx.vals hx.kids).weaken (by omega)
end Go.Proofs.Ytceefoopehoalaa
