/-
  The document's own Put and Delete of layer 7 at work.
-/
import Derived.Test.YtceefoopehoalaaNdPutA
import Derived.Test.YtceefoopehoalaaNdRefI
import Derived.Test.YtceefoopehoalaaLate2
namespace Go.Proofs.Ytceefoopehoalaa
open Go.RowKit
/-- A row of one text in its block m. -/
def RowT (w : World) (B0 base m : Nat) (u : Value) (l : List UInt8) : Prop := w.heap[m]? = some (.cells #[u] 22 (0, 0)) ∧ Txt w B0 base u l
section
variable {w w' : World} {B0 base m : Nat} {u : Value} {l : List UInt8} {g : Option Nat}
theorem RowT.lit (h : Txt w B0 base u l) (hB : B0 ≤ base) : RowT (w.alloc (.cells #[u] 22)) B0 base w.heap.size u l := ⟨heap_alloc_last _ _, h.keep (Fr.alloc w _) (RowB.none _ _) hB⟩
theorem RowT.lt (h : RowT w B0 base m u l) : m < w.heap.size := (Array.getElem?_eq_some_iff.1 h.1).1
theorem RowT.kept (h : RowT w B0 base m u l) (hb : Below w.heap.size w w') (hB : B0 ≤ base) : RowT w' B0 base m u l := ⟨(hb.block _ h.lt).trans h.1, h.2.keep (Fr.below hb) (RowB.none _ _) hB⟩
theorem RowT.grown (h : RowT w B0 base m u l) (hg : w.grownBy w' g) (hne : g ≠ some m) (hr : RowB w base g) (hB : B0 ≤ base) : RowT w' B0 base m u l := ⟨(hg.block m h.lt (fun e => hne e.symm)).trans h.1, h.2.keep (Fr.grown hg) hr hB⟩
theorem RowT.rdT (h : RowT w B0 base m u l) : RdT w B0 base (.slice (some ⟨m, 0, none⟩) 1 1) [l] := by
  refine ⟨[u], ⟨_, _, rfl, Nat.le_refl _, by unfold maxLen; simp, (fun h => by cases h), fun _ => ⟨m, 0, rfl, h.lt, fun j v hv => ?_⟩⟩, rfl, fun k v q a b => ?_⟩
  · rw [Nat.zero_add, cell_of_row w m j _ _ (0, 0) h.1]
    simpa using hv
  · match k, a, b with
    | 0, a, b => simp at a b; subst a b; exact h.2
end
/-- At work: the node in its block, where the answer comes, and the node that is being made. -/
structure RpW (w0 : World) (B0 : Nat) (w : World) (K V D tK tV uK uV : Value) (ks vs : List (List UInt8)) : Prop where
  lo : B0 ≤ w0.heap.size
  nm : NdMk w B0 (w0.heap.size + 1 + 1 + 1) (w0.heap.size + 1 + 1) true tK tV (.slice none 0 0) uK uV (.slice none 0 0) ks vs []
  top : w.heap[w0.heap.size]? = some (.cells #[.bool true, K, V, D] 27 (0, 0))
  out : w.heap[w0.heap.size + 1]? = some (.cells #[.bool false, .slice none 0 0, .slice none 0 0, .slice none 0 0] 27 (0, 0))
  below : Below w0.heap.size w0 w
section
variable {w0 w w' : World} {K V D tK tV uK uV u : Value} {ks vs : List (List UInt8)} {l : List UInt8} {m B0 : Nat}
theorem RpW.kept (h : RpW w0 B0 w K V D tK tV uK uV ks vs) (hb : Below w.heap.size w w') : RpW w0 B0 w' K V D tK tV uK uV ks vs :=
  ⟨h.lo, h.nm.kept hb, (hb.block _ (by have := h.nm.le; omega)).trans h.top, (hb.block _ (by have := h.nm.le; omega)).trans h.out, up h.below hb⟩
theorem RpW.start (hB : B0 ≤ w0.heap.size) : RpW w0 B0 (((w0.alloc (.cells #[.bool true, K, V, D] 27)).alloc (.cells #[.bool false, .slice none 0 0, .slice none 0 0, .slice none 0 0] 27)).alloc (.cells #[.bool true, .slice none 0 0, .slice none 0 0, .slice none 0 0] 27)) K V D (.slice none 0 0) (.slice none 0 0) (.slice none 0 0) (.slice none 0 0) [] [] := by
  obtain ⟨wa, ha⟩ : ∃ x, x = w0.alloc (.cells #[.bool true, K, V, D] 27) := ⟨_, rfl⟩
  have e1 : wa.heap.size = w0.heap.size + 1 := by rw [ha]; simp
  have ht : wa.heap[w0.heap.size]? = some (.cells #[.bool true, K, V, D] 27 (0, 0)) := by rw [ha]; exact heap_alloc_last _ _
  have l0 : Below w0.heap.size w0 wa := by rw [ha]; exact (Below.refl _ _).alloc (Nat.le_refl _) _
  rw [← ha]
  obtain ⟨wb, hb⟩ : ∃ x, x = wa.alloc (.cells #[.bool false, .slice none 0 0, .slice none 0 0, .slice none 0 0] 27) := ⟨_, rfl⟩
  have e2 : wb.heap.size = wa.heap.size + 1 := by rw [hb]; simp
  have ho : wb.heap[wa.heap.size]? = some (.cells #[.bool false, .slice none 0 0, .slice none 0 0, .slice none 0 0] 27 (0, 0)) := by rw [hb]; exact heap_alloc_last _ _
  have l1 : Below wa.heap.size wa wb := by rw [hb]; exact (Below.refl _ _).alloc (Nat.le_refl _) _
  rw [← hb]
  have l2 := (Below.refl wb.heap.size wb).alloc (Nat.le_refl _) (.cells #[.bool true, .slice none 0 0, .slice none 0 0, .slice none 0 0] 27)
  have hp : (wb.alloc (.cells #[.bool true, .slice none 0 0, .slice none 0 0, .slice none 0 0] 27)).heap[wb.heap.size]? = some (.cells #[.bool true, .slice none 0 0, .slice none 0 0, .slice none 0 0] 27 (0, 0)) := heap_alloc_last _ _
  rw [e1] at ho
  rw [e2, e1] at hp
  refine ⟨hB, ⟨hp, OwnT.nil _ _ _, OwnT.nil _ _ _, Mine.nil _ _ _, (fun k h => by cases h), by omega, by omega, ?_⟩, (l2.block _ (by omega)).trans ((l1.block _ (by omega)).trans ht), (l2.block _ (by omega)).trans ho, up (up l0 l1) l2⟩
  simp
  omega
theorem RpW.grew {uK' uV' : Value} {ks' vs' : List (List UInt8)} (h : RpW w0 B0 w K V D tK tV uK uV ks vs) (hb : Below (w0.heap.size + 1 + 1 + 1) w w') (hn : NdMk w' B0 (w0.heap.size + 1 + 1 + 1) (w0.heap.size + 1 + 1) true tK tV (.slice none 0 0) uK' uV' (.slice none 0 0) ks' vs' []) : RpW w0 B0 w' K V D tK tV uK' uV' ks' vs' :=
  ⟨h.lo, hn, (hb.block _ (by omega)).trans h.top, (hb.block _ (by omega)).trans h.out, h.below.trans (hb.mono (by omega))⟩
theorem RpW.appK (h : RpW w0 B0 w K V D tK tV uK uV ks vs) (hr : RowT w B0 (w0.heap.size + 1 + 1 + 1) m u l) (hs : ks.length ≤ 100000) :
    ∃ A n c w', (Builtin.append_ #[24, 24] 24 #[uK, .slice (some ⟨m, 0, none⟩) 1 1]).run Try.prog w = .ok (.slice A n c) w' ∧ RpW w0 B0 w' K V D tK tV (.slice A n c) uV (ks ++ [l]) vs ∧ w.grownBy w' uK.ownBlock ∧ Below (w0.heap.size + 1 + 1 + 1) w w' := by
  obtain ⟨A, n, c, w', hrun, hn, hb, hg⟩ := h.nm.appK hr.rdT (by simp; omega)
  exact ⟨A, n, c, w', hrun, h.grew hb hn, hg, hb⟩
theorem RpW.appV (h : RpW w0 B0 w K V D tK tV uK uV ks vs) (hr : RowT w B0 (w0.heap.size + 1 + 1 + 1) m u l) (hs : vs.length ≤ 100000) :
    ∃ A n c w', (Builtin.append_ #[24, 24] 24 #[uV, .slice (some ⟨m, 0, none⟩) 1 1]).run Try.prog w = .ok (.slice A n c) w' ∧ RpW w0 B0 w' K V D tK tV uK (.slice A n c) ks (vs ++ [l]) ∧ w.grownBy w' uV.ownBlock ∧ Below (w0.heap.size + 1 + 1 + 1) w w' := by
  obtain ⟨A, n, c, w', hrun, hn, hb, hg⟩ := h.nm.appV hr.rdT (by simp; omega)
  exact ⟨A, n, c, w', hrun, h.grew hb hn, hg, hb⟩
theorem RpW.set (h : RpW w0 B0 w K V D tK tV uK uV ks vs) (j : Nat) (v : Value) {tK' tV' : Value} (hm : NdMk (w.setCell ⟨w0.heap.size + 1 + 1, j, none⟩ v) B0 (w0.heap.size + 1 + 1 + 1) (w0.heap.size + 1 + 1) true tK' tV' (.slice none 0 0) uK uV (.slice none 0 0) ks vs []) : RpW w0 B0 (w.setCell ⟨w0.heap.size + 1 + 1, j, none⟩ v) K V D tK' tV' uK uV ks vs :=
  ⟨h.lo, hm, (heap_setCell_other w _ _ v (show w0.heap.size ≠ w0.heap.size + 1 + 1 by omega)).trans h.top, (heap_setCell_other w _ _ v (show w0.heap.size + 1 ≠ w0.heap.size + 1 + 1 by omega)).trans h.out, h.below.trans ((Below.refl _ _).setCell (p := ⟨w0.heap.size + 1 + 1, j, none⟩) (show w0.heap.size ≤ w0.heap.size + 1 + 1 by omega) v)⟩
theorem RpW.setK (h : RpW w0 B0 w K V D tK tV uK uV ks vs) : RpW w0 B0 (w.setCell ⟨w0.heap.size + 1 + 1, 1, none⟩ uK) K V D uK tV uK uV ks vs := h.set 1 uK h.nm.setK
theorem RpW.setV (h : RpW w0 B0 w K V D tK tV uK uV ks vs) : RpW w0 B0 (w.setCell ⟨w0.heap.size + 1 + 1, 2, none⟩ uV) K V D tK uV uK uV ks vs := h.set 2 uV h.nm.setV
theorem RpW.box (h : RpW w0 B0 w K V D tK tV uK uV ks vs) : NdBox w w0.heap.size true K V D := box_of_top h.top
theorem RpW.txt (h : RpW w0 B0 w K V D tK tV uK uV ks vs) (hr : Rd w0 B0 u (cellsB l)) : Txt w B0 (w0.heap.size + 1 + 1 + 1) u l := (hr.below (h.below.mono h.lo)).txt (Nat.le_refl _) (Nat.le_trans h.lo h.below.size)
theorem RpW.neK (h : RpW w0 B0 w K V D tK tV uK uV ks vs) : uK.ownBlock ≠ some w.heap.size := fun e => by have := (h.nm.rK.block _ e).2; omega
theorem RpW.neV (h : RpW w0 B0 w K V D tK tV uK uV ks vs) : uV.ownBlock ≠ some w.heap.size := fun e => by have := (h.nm.rV.block _ e).2; omega
/-- The answer is stored. -/
theorem RpW.done (h : RpW w0 B0 w K V D uK uV uK uV ks vs) : OwnT (store4 w (w0.heap.size + 1) true uK uV (.slice none 0 0)) B0 (w0.heap.size + 1 + 1 + 1) uK ks ∧ OwnT (store4 w (w0.heap.size + 1) true uK uV (.slice none 0 0)) B0 (w0.heap.size + 1 + 1 + 1) uV vs ∧ Below w0.heap.size w0 (store4 w (w0.heap.size + 1) true uK uV (.slice none 0 0)) := by
  have hlo := h.lo
  have hf : Fr B0 (w0.heap.size + 1 + 1 + 1) none w (store4 w (w0.heap.size + 1) true uK uV (.slice none 0 0)) := ⟨Nat.le_of_eq store4_size.symm, fun k _ h2 _ => store4_other (by omega)⟩
  exact ⟨h.nm.rK.keep hf (RowB.none _ _) (by omega) (fun _ _ e => by cases e), h.nm.rV.keep hf (RowB.none _ _) (by omega) (fun _ _ e => by cases e), h.below.trans (store4_below (by omega))⟩
end
/-- A leaf of rows of one's own is told, of texts below B0 or of one's own. -/
def RpOut (n : Nd) (B0 : Nat) (w : World) (e : Ending) (w' : World) : Prop :=
  ∃ K V, e = .returned (ndVal true K V (.slice none 0 0)) ∧ OwnT w' B0 (w.heap.size + 1 + 1 + 1) K n.keys ∧ OwnT w' B0 (w.heap.size + 1 + 1 + 1) V n.vals ∧ Below w.heap.size w w'
set_option maxRecDepth 100000 in
set_option maxHeartbeats 4000000 in
theorem rdel_any {n : Nd} {K V D kv : Value} {key : List UInt8} {w : World} {B0 : Nat} (hB0 : B0 ≤ w.heap.size) (hn : NdIs w B0 K V D n) (hk : Rd w B0 kv (cellsB key)) (hsh : n.Short 40000) (hG : n.MayDel key) :
    Calls Try.prog 22 #[ndVal true K V D, kv] w fun e w' => RpOut (n.del key) B0 w e w' := by
  obtain ⟨hln, hs, hth⟩ := hG
  have hvk : n.vals.length = n.keys.length := (hs.ofLeaf hln).2
  have hple := isN_lt hs.keys hth
  have hiff := fun j (h : j < n.keys.length) => isN_iff hs.keys (key := key) h
  have hall1 := delS_all (k := atN n.keys key) (xs := n.keys) hple
  have hall2 := delS_all (k := atN n.keys key) (xs := n.vals) (by rw [hvk]; exact hple)
  obtain ⟨A1, c1, A2, c2, A3, c3, rfl, rfl, rfl⟩ := hn.form
  obtain ⟨bk, ok, rfl, hbk⟩ := hn.keys.addr (by omega)
  obtain ⟨bv, ov, rfl, hbv⟩ := hn.vals.addr (by omega)
  have hck := fun j (h : j < n.keys.length) => hn.keys.cell h
  have hcv := fun j (h : j < n.vals.length) => hn.vals.cell h
  obtain ⟨Ak, ck, rfl, -, -, -⟩ := hk.bytes
  obtain ⟨a, ha⟩ : ∃ x, x = n.keys.length := ⟨_, rfl⟩
  obtain ⟨d, hd⟩ : ∃ x, x = n.kids.length := ⟨_, rfl⟩
  obtain ⟨kl, hkl⟩ : ∃ x, x = key.length := ⟨_, rfl⟩
  obtain ⟨p, hp⟩ : ∃ x, x = atN n.keys key := ⟨_, rfl⟩
  have hdel : n.del key = ⟨true, delL p n.keys, delL p n.vals, []⟩ := by rw [hp]; rfl
  rw [hvk] at hcv hall2
  rw [hdel, hvk]
  rw [← hp] at hiff hall1 hall2
  rw [← hkl] at hk
  rw [← ha] at hiff hck hcv hall1 hall2 hple
  rw [← ha, ← hd, ← hkl]
  have ha4 : a ≤ 40000 := by rw [ha]; exact hsh.1
  have hd1 := fun j (h : j < a) (g : j ≠ p) => (show delS p n.keys (j + 1) = delS p n.keys j ++ [n.keys.getD j []] by rw [delS, if_neg g])
  have hd2 := fun j (h : j < a) (g : j ≠ p) => (show delS p n.vals (j + 1) = delS p n.vals j ++ [n.vals.getD j []] by rw [delS, if_neg g])
  have hd3 : delS p n.keys (p + 1) = delS p n.keys p := by rw [delS, if_pos rfl, List.append_nil]
  have hd4 : delS p n.vals (p + 1) = delS p n.vals p := by rw [delS, if_pos rfl, List.append_nil]
  have hdl : ∀ xs j, (delS p xs j).length ≤ j := fun xs j => by
    induction j with
    | zero => exact Nat.le_refl _
    | succ j ih => rw [delS]; split <;> simp <;> omega
  have hst := RpW.start (w0 := w) hB0 (K := .slice (some ⟨bk, ok, none⟩) a c1) (V := .slice (some ⟨bv, ov, none⟩) a c2) (D := .slice A3 d c3)
  obtain ⟨W0, hW0⟩ : ∃ X, X = ((w.alloc (.cells #[.bool true, .slice (some ⟨bk, ok, none⟩) a c1, .slice (some ⟨bv, ov, none⟩) a c2, .slice A3 d c3] 27)).alloc (.cells #[.bool false, .slice none 0 0, .slice none 0 0, .slice none 0 0] 27)).alloc (.cells #[.bool true, .slice none 0 0, .slice none 0 0, .slice none 0 0] 27) := ⟨_, rfl⟩
  rw [← hW0] at hst
  have HW0 := Lib.hid hW0
  have HSt := Lib.hid hst
  have HK := Lib.hid hk
  have HIff := Lib.hid hiff
  have HCk := Lib.hid hck
  have HCv := Lib.hid hcv
  have HAll := Lib.hid (And.intro hall1 hall2)
  have HD := Lib.hid (And.intro hd1 (And.intro hd2 (And.intro hd3 hd4)))
  have HDl := Lib.hid hdl
  have HBk := Lib.hid (And.intro (show bk < w.heap.size by omega) (show bv < w.heap.size by omega))
  have HTh := Lib.hid hth
  have HPl := Lib.hid hple
  clear hW0 hst hn hk hsh hiff hck hcv hall1 hall2 hd1 hd2 hd3 hd4 hdl hbk hbv hth hple hvk hs hln hdel ha hd hkl hp
  go_enter Try.func22, Try.ntmps22
  go_wp2_with fail
  rw [← HW0.out]
  clear HW0
  go_loopw [6] (fun iv wr => ∃ (k : Nat) (T1 T2 : Option Addr) (t1 e1 t2 e2 : Nat), k ≤ a ∧ iv = .int .i64 (k : Int) ∧ Hid (RpW w B0 wr (.slice (some ⟨bk, ok, none⟩) a c1) (.slice (some ⟨bv, ov, none⟩) a c2) (.slice A3 d c3) (.slice T1 t1 e1) (.slice T2 t2 e2) (.slice T1 t1 e1) (.slice T2 t2 e2) (delS p n.keys k) (delS p n.vals k))) (fun iv _ => a - (intOf iv).toNat)
  case atStart => exact ⟨0, _, _, _, _, _, _, Nat.zero_le _, rfl, HSt.out⟩
  case round =>
    obtain ⟨k, T1, T2, t1, e1, t2, e2, hk, rfl, HR⟩ := hrel
    obtain ⟨x0, x1, x2, x3⟩ := HR.out.box
    by_cases hlt : k < a
    · obtain ⟨Ac, mc, cc, hkc, hkr, -, -, -⟩ := HCk.out k hlt
      obtain ⟨Bc, nc, dc, hvc, hvr, -, -, -⟩ := HCv.out k hlt
      have hif := HIff.out k hlt
      obtain ⟨kk, hkk⟩ : ∃ x, x = n.keys.getD k [] := ⟨_, rfl⟩
      obtain ⟨vv, hvv⟩ : ∃ x, x = n.vals.getD k [] := ⟨_, rfl⟩
      rw [← hkk] at hkr hif
      rw [← hvv] at hvr
      have HKk := Lib.hid hkk
      have HVv := Lib.hid hvv
      have HKr := Lib.hid hkr
      have HVr := Lib.hid hvr
      have HKc := Lib.hid hkc
      have HVc := Lib.hid hvc
      have S5 : (fun w' : World => w'.cell? ⟨w.heap.size, 1, none⟩ = some (.slice (some ⟨bk, ok, none⟩) a c1) ∧ w'.cell? ⟨bk, ok + k, none⟩ = some (.slice Ac mc cc) ∧ (convert 22 9 (.slice Ac mc cc)).run Try.prog w' = .ok (.string ⟨kk.toArray⟩) w' ∧ (convert 22 9 (.slice Ak kl ck)).run Try.prog w' = .ok (.string ⟨key.toArray⟩) w') wr.drew := ⟨HR.out.box.c1, (HR.out.below.cell HBk.out.1).trans hkc, run_string_rd (P := Try.prog) 22 9 5 Try.underlying22 Try.underlying5 Try.underlying9 (hkr.below (HR.out.below.mono hB0)).drew, run_string_rd (P := Try.prog) 22 9 5 Try.underlying22 Try.underlying5 Try.underlying9 (HK.out.below (HR.out.below.mono hB0)).drew⟩
      have H5 := Lib.hid S5
      have k0 : (0 : Int) ≤ (k : Int) := by omega
      have k1 : (k : Int) < (a : Int) := by omega
      have k3 : (k : Int).toNat = k := by omega
      clear S5 hkc hkr hvc hvr hkk hvv
      by_cases hkp : k = p
      · have heq : kk = key := hif.2 ⟨HTh.out, hkp⟩
        have t1' : (kk == key) = true := by rw [heq]; simp
        have Hkp := Lib.hid hkp
        clear hif heq hkp
        go_wp2_with fail
        go_region_held3 (fun w' => w'.cell? ⟨w.heap.size, 1, none⟩ = some (.slice (some ⟨bk, ok, none⟩) a c1) ∧ w'.cell? ⟨bk, ok + k, none⟩ = some (.slice Ac mc cc) ∧ (convert 22 9 (.slice Ac mc cc)).run Try.prog w' = .ok (.string ⟨kk.toArray⟩) w' ∧ (convert 22 9 (.slice Ak kl ck)).run Try.prog w' = .ok (.string ⟨key.toArray⟩) w') (exact H5.out) (fail)
        go_wp2_with fail
        go_roundw
        case rel =>
          refine ⟨k + 1, T1, T2, t1, e1, t2, e2, by omega, by go_num, Lib.hid ?_⟩
          have hr := HR.out.kept (Below.refl _ _).drew
          obtain ⟨-, -, g1, g2⟩ := HD.out
          rw [show delS p n.keys (k + 1) = delS p n.keys k by rw [Hkp.out]; exact g1, show delS p n.vals (k + 1) = delS p n.vals k by rw [Hkp.out]; exact g2]
          exact hr
        case measure => simp [intOf]; omega
      · have hne : ¬ kk = key := fun h => hkp (hif.1 h).2
        have t1' : (kk == key) = false := by simp [hne]
        have Hkp := Lib.hid hkp
        clear hif hne hkp
        go_wp2_with fail
        go_region_held3 (fun w' => w'.cell? ⟨w.heap.size, 1, none⟩ = some (.slice (some ⟨bk, ok, none⟩) a c1) ∧ w'.cell? ⟨bk, ok + k, none⟩ = some (.slice Ac mc cc) ∧ (convert 22 9 (.slice Ac mc cc)).run Try.prog w' = .ok (.string ⟨kk.toArray⟩) w' ∧ (convert 22 9 (.slice Ak kl ck)).run Try.prog w' = .ok (.string ⟨key.toArray⟩) w') (exact H5.out) (fail)
        have HR' := Lib.hid (HR.out.kept (Below.refl _ _).drew)
        clear H5
        go_wp2_with fail
        have T_ : ∀ {W : World} {uK uV : Value} {lk lv : List (List UInt8)}, RpW w B0 W (.slice (some ⟨bk, ok, none⟩) a c1) (.slice (some ⟨bv, ov, none⟩) a c2) (.slice A3 d c3) (.slice T1 t1 e1) (.slice T2 t2 e2) uK uV lk lv → (fun w' => w'.cell? ⟨w.heap.size, 1, none⟩ = some (.slice (some ⟨bk, ok, none⟩) a c1) ∧ w'.cell? ⟨w.heap.size, 2, none⟩ = some (.slice (some ⟨bv, ov, none⟩) a c2) ∧ w'.cell? ⟨w.heap.size + 1 + 1, 1, none⟩ = some (.slice T1 t1 e1) ∧ w'.cell? ⟨w.heap.size + 1 + 1, 2, none⟩ = some (.slice T2 t2 e2) ∧ w'.cell? ⟨bk, ok + k, none⟩ = some (.slice Ac mc cc) ∧ w'.cell? ⟨bv, ov + k, none⟩ = some (.slice Bc nc dc)) W := fun {W uK uV lk lv} hT => by
          exact ⟨hT.box.c1, hT.box.c2, hT.nm.c1, hT.nm.c2, (hT.below.cell HBk.out.1).trans HKc.out, (hT.below.cell HBk.out.2).trans HVc.out⟩
        obtain ⟨wd, hwd⟩ : ∃ x, x = wr.drew.drew := ⟨_, rfl⟩
        have HS_wd : Hid (RpW w B0 wd (.slice (some ⟨bk, ok, none⟩) a c1) (.slice (some ⟨bv, ov, none⟩) a c2) (.slice A3 d c3) (.slice T1 t1 e1) (.slice T2 t2 e2) (.slice T1 t1 e1) (.slice T2 t2 e2) (delS p n.keys k) (delS p n.vals k)) := Lib.hid (by rw [hwd]; exact HR'.out.kept (Below.refl _ _).drew)
        have Zwd := Lib.hid (show wd.heap.size = wr.drew.heap.size by rw [hwd]; rfl)
        have S0 : (fun w' => w'.cell? ⟨w.heap.size, 1, none⟩ = some (.slice (some ⟨bk, ok, none⟩) a c1) ∧ w'.cell? ⟨w.heap.size, 2, none⟩ = some (.slice (some ⟨bv, ov, none⟩) a c2) ∧ w'.cell? ⟨w.heap.size + 1 + 1, 1, none⟩ = some (.slice T1 t1 e1) ∧ w'.cell? ⟨w.heap.size + 1 + 1, 2, none⟩ = some (.slice T2 t2 e2) ∧ w'.cell? ⟨bk, ok + k, none⟩ = some (.slice Ac mc cc) ∧ w'.cell? ⟨bv, ov + k, none⟩ = some (.slice Bc nc dc)) wd := T_ HS_wd.out
        have HR0 := Lib.hid HS_wd.out
        refine wp_region_late (S := fun w' => w'.cell? ⟨w.heap.size, 1, none⟩ = some (.slice (some ⟨bk, ok, none⟩) a c1) ∧ w'.cell? ⟨w.heap.size, 2, none⟩ = some (.slice (some ⟨bv, ov, none⟩) a c2) ∧ w'.cell? ⟨w.heap.size + 1 + 1, 1, none⟩ = some (.slice T1 t1 e1) ∧ w'.cell? ⟨w.heap.size + 1 + 1, 2, none⟩ = some (.slice T2 t2 e2) ∧ w'.cell? ⟨bk, ok + k, none⟩ = some (.slice Ac mc cc) ∧ w'.cell? ⟨bv, ov + k, none⟩ = some (.slice Bc nc dc)) [19, 20, 21] (by kernel_rfl) (by rw [← hwd]; exact S0) (fun hHeld => ?_)
        rw [← hwd]
        clear hwd
        refine' anyU_take0 (i := 0) (oi := ⟨some 24, .fieldAddr 27 (.tmp 5) 1, _, _, _, none⟩) (v := _) rfl (by kernel_rfl) (fun _ _ _ h => h) (Or.inl ⟨by rfl, ?hy1⟩) (by assumption) ?rest1
        case hy1 => (intro w hSw; go_simp <;> with_reducible rfl)
        case rest1 =>
        go_frame
        refine' anyU_take (i := 1) (oi := ⟨some 25, .load 24 (.tmp 24), _, _, _, none⟩) (v := _) rfl (by kernel_rfl) (fun _ _ _ h => h) (Or.inl ⟨by rfl, ?hy2⟩) (by assumption) ?rest2
        case hy2 => (intro w hSw; obtain ⟨s0, s1, s2, s3, s4, s5⟩ := hSw; go_simp <;> with_reducible rfl)
        case rest2 =>
        go_frame
        refine' anyU_take0 (i := 2) (oi := ⟨some 26, .fieldAddr 27 (.tmp 2) 1, _, _, _, none⟩) (v := _) rfl (by kernel_rfl) (fun _ _ _ h => h) (Or.inl ⟨by rfl, ?hy3⟩) (by assumption) ?rest3
        case hy3 => (intro w hSw; go_simp <;> with_reducible rfl)
        case rest3 =>
        go_frame
        refine' anyU_take (i := 3) (oi := ⟨some 27, .load 24 (.tmp 26), _, _, _, none⟩) (v := _) rfl (by kernel_rfl) (fun _ _ _ h => h) (Or.inl ⟨by rfl, ?hy4⟩) (by assumption) ?rest4
        case hy4 => (intro w hSw; obtain ⟨s0, s1, s2, s3, s4, s5⟩ := hSw; go_simp <;> with_reducible rfl)
        case rest4 =>
        go_frame
        refine' anyU_take0 (i := 4) (oi := ⟨some 28, .move (.tmp 6), _, _, _, none⟩) (v := _) rfl (by kernel_rfl) (fun _ _ _ h => h) (Or.inl ⟨by rfl, ?hy5⟩) (by assumption) ?rest5
        case hy5 => (intro w hSw; go_simp <;> with_reducible rfl)
        case rest5 =>
        go_frame
        refine' anyU_take0 (i := 5) (oi := ⟨some 29, .indexAddr 24 (.tmp 27) (.tmp 28), _, _, _, none⟩) (v := _) rfl (by kernel_rfl) (fun _ _ _ h => h) (Or.inl ⟨by rfl, ?hy6⟩) (by assumption) ?rest6
        case hy6 => (intro w hSw; go_simp <;> with_reducible rfl)
        case rest6 =>
        go_frame
        refine' anyU_take (i := 6) (oi := ⟨some 30, .load 22 (.tmp 29), _, _, _, none⟩) (v := _) rfl (by kernel_rfl) (fun _ _ _ h => h) (Or.inl ⟨by rfl, ?hy7⟩) (by assumption) ?rest7
        case hy7 => (intro w hSw; obtain ⟨s0, s1, s2, s3, s4, s5⟩ := hSw; go_simp <;> with_reducible rfl)
        case rest7 =>
        go_frame
        refine' anyU_take0 (i := 9) (oi := ⟨some 33, .fieldAddr 27 (.tmp 5) 2, _, _, _, none⟩) (v := _) rfl (by kernel_rfl) (fun _ _ _ h => h) (Or.inl ⟨by rfl, ?hy8⟩) (by assumption) ?rest8
        case hy8 => (intro w hSw; go_simp <;> with_reducible rfl)
        case rest8 =>
        go_frame
        refine' anyU_take (i := 10) (oi := ⟨some 34, .load 24 (.tmp 33), _, _, _, none⟩) (v := _) rfl (by kernel_rfl) (fun _ _ _ h => h) (Or.inl ⟨by rfl, ?hy9⟩) (by assumption) ?rest9
        case hy9 => (intro w hSw; obtain ⟨s0, s1, s2, s3, s4, s5⟩ := hSw; go_simp <;> with_reducible rfl)
        case rest9 =>
        go_frame
        refine' anyU_take0 (i := 11) (oi := ⟨some 35, .fieldAddr 27 (.tmp 2) 2, _, _, _, none⟩) (v := _) rfl (by kernel_rfl) (fun _ _ _ h => h) (Or.inl ⟨by rfl, ?hy10⟩) (by assumption) ?rest10
        case hy10 => (intro w hSw; go_simp <;> with_reducible rfl)
        case rest10 =>
        go_frame
        refine' anyU_take2 [14, 15, 16, 17, 19, 20, 21] (i := 12) (oi := ⟨some 36, .load 24 (.tmp 35), _, _, _, none⟩) (v := _) rfl (by kernel_rfl) (fun _ _ _ h => h) (Or.inl ⟨by rfl, ?hy11⟩) (by assumption) ?rest11
        case hy11 => (intro w hSw; obtain ⟨s0, s1, s2, s3, s4, s5⟩ := hSw; go_simp <;> with_reducible rfl)
        case rest11 =>
        go_frame
        refine' anyU_take0 (i := 13) (oi := ⟨some 37, .move (.tmp 6), _, _, _, none⟩) (v := _) rfl (by kernel_rfl) (fun _ _ _ h => h) (Or.inl ⟨by rfl, ?hy12⟩) (by assumption) ?rest12
        case hy12 => (intro w hSw; go_simp <;> with_reducible rfl)
        case rest12 =>
        go_frame
        refine' anyU_take0 (i := 14) (oi := ⟨some 38, .indexAddr 24 (.tmp 36) (.tmp 37), _, _, _, none⟩) (v := _) rfl (by kernel_rfl) (fun _ _ _ h => h) (Or.inl ⟨by rfl, ?hy13⟩) (by assumption) ?rest13
        case hy13 => (intro w hSw; go_simp <;> with_reducible rfl)
        case rest13 =>
        go_frame
        refine' anyU_take2 [16, 17, 19, 20, 21] (i := 15) (oi := ⟨some 39, .load 22 (.tmp 38), _, _, _, none⟩) (v := _) rfl (by kernel_rfl) (fun _ _ _ h => h) (Or.inl ⟨by rfl, ?hy14⟩) (by assumption) ?rest14
        case hy14 => (intro w hSw; obtain ⟨s0, s1, s2, s3, s4, s5⟩ := hSw; go_simp <;> with_reducible rfl)
        case rest14 =>
        go_frame
        refine anyU_ready (rs := [7, 16]) (by kernel_rfl) (by simp) (AllU.cons (o := ⟨some 31, .buildSlice 24 1 #[(0, .tmp 30)], _, _, _, none⟩) rfl (fun K hK => ?_) (fun h => absurd h (by decide)) (AllU.cons (o := ⟨some 40, .buildSlice 24 1 #[(0, .tmp 39)], _, _, _, none⟩) rfl (fun K hK => ?_) (fun h => absurd h (by decide)) AllU.nil))
        · rw [if_pos (by rfl)]
          obtain ⟨v1, hu⟩ : ∃ u, u = wd.alloc (.cells #[.slice Ac mc cc] 22) := ⟨_, rfl⟩
          have hb : Below wd.heap.size wd v1 := by rw [hu]; exact (Below.refl wd.heap.size wd).alloc (Nat.le_refl _) (.cells #[.slice Ac mc cc] 22)
          have hrw : RowT v1 B0 (w.heap.size + 1 + 1 + 1) wd.heap.size (.slice Ac mc cc) (kk) := by rw [hu]; exact RowT.lit (HR0.out.txt HKr.out) (by omega)
          have HR1 := Lib.hid (HR0.out.kept hb)
          have HKr1 := Lib.hid hrw
          go_simp
          rw [← hu]
          have Sx1 := T_ HR1.out
          refine hK.out _ _ (fun _ => Sx1) ?_
          clear hK K S0 hu hb hrw
          try go_frame
          refine anyU_ready (rs := [8, 16]) (by kernel_rfl) (by simp) (AllU.cons (o := ⟨some 32, .call { callee := .builtin .append, args := #[.tmp 25, .tmp 31], argTypes := #[24, 24] }, _, _, _, none⟩) rfl (fun K hK => ?_) (fun h => absurd h (by decide)) (AllU.cons (o := ⟨some 40, .buildSlice 24 1 #[(0, .tmp 39)], _, _, _, none⟩) rfl (fun K hK => ?_) (fun h => absurd h (by decide)) AllU.nil))
          · rw [if_pos (by rfl)]
            obtain ⟨P1, n1, d1, v2, hrun, hr2, hg, hbb⟩ := HR1.out.appK HKr1.out (by have := HDl.out n.keys k; omega)
            have Hrun := Lib.hid hrun
            have HR2 := Lib.hid hr2
            clear hrun hr2 hg hbb
            refine wp_run (.slice P1 n1 d1) v2 (exec_append (t := 24) (x := .tmp 25) (y := .tmp 31) rfl rfl rfl Hrun.out) ?_
            have Sx2 := T_ HR2.out
            refine hK.out _ _ (fun _ => Sx2) ?_
            clear hK K Sx1 Hrun
            go_frame
            refine' anyU_take0 (i := 18) (oi := ⟨some 42, .fieldAddr 27 (.tmp 5) 1, _, _, _, none⟩) (v := _) rfl (by kernel_rfl) (fun _ _ _ h => h) (Or.inl ⟨by rfl, ?hy15⟩) (by assumption) ?rest15
            case hy15 => (intro w hSw; go_simp <;> with_reducible rfl)
            case rest15 =>
            go_frame
            refine anyU_ready (rs := [16]) (by kernel_rfl) (by simp) (AllU.cons (o := ⟨some 40, .buildSlice 24 1 #[(0, .tmp 39)], _, _, _, none⟩) rfl (fun K hK => ?_) (fun h => absurd h (by decide)) AllU.nil)
            rw [if_pos (by rfl)]
            obtain ⟨v3, hu⟩ : ∃ u, u = v2.alloc (.cells #[.slice Bc nc dc] 22) := ⟨_, rfl⟩
            have hb : Below v2.heap.size v2 v3 := by rw [hu]; exact (Below.refl v2.heap.size v2).alloc (Nat.le_refl _) (.cells #[.slice Bc nc dc] 22)
            have hrw : RowT v3 B0 (w.heap.size + 1 + 1 + 1) v2.heap.size (.slice Bc nc dc) (vv) := by rw [hu]; exact RowT.lit (HR2.out.txt HVr.out) (by omega)
            have HR3 := Lib.hid (HR2.out.kept hb)
            have HVr3 := Lib.hid hrw
            go_simp
            rw [← hu]
            have Sx3 := T_ HR3.out
            refine hK.out _ _ (fun _ => Sx3) ?_
            clear hK K Sx2 hu hb hrw
            try go_frame
            refine anyU_ready (rs := [17]) (by kernel_rfl) (by simp) (AllU.cons (o := ⟨some 41, .call { callee := .builtin .append, args := #[.tmp 34, .tmp 40], argTypes := #[24, 24] }, _, _, _, none⟩) rfl (fun K hK => ?_) (fun h => absurd h (by decide)) AllU.nil)
            rw [if_pos (by rfl)]
            obtain ⟨P2, n2, d2, v4, hrun, hr2, hg, hbb⟩ := HR3.out.appV HVr3.out (by have := HDl.out n.vals k; omega)
            have Hrun := Lib.hid hrun
            have HR4 := Lib.hid hr2
            clear hrun hr2 hg hbb
            refine wp_run (.slice P2 n2 d2) v4 (exec_append (t := 24) (x := .tmp 34) (y := .tmp 40) rfl rfl rfl Hrun.out) ?_
            have Sx4 := T_ HR4.out
            refine hK.out _ _ (fun _ => Sx4) ?_
            clear hK K Sx3 Hrun
            go_frame
            refine anyU_ready (rs := [19]) (by kernel_rfl) (by simp) (AllU.cons (o := ⟨none, .store 24 (.tmp 42) (.tmp 32), _, _, _, none⟩) rfl (fun K hK => ?_) (fun _ => by kernel_rfl) AllU.nil)
            rw [if_pos (by rfl)]
            obtain ⟨y0, y1, y2, y3, f0, f1, f2, f3⟩ := out_cells HR4.out.nm.top
            go_simp
            refine hK.out _ _ (fun h => absurd h (by decide)) ?_
            clear hK K
            try go_frame
            obtain ⟨Wa, hWa⟩ : ∃ X, X = v4.setCell ⟨w.heap.size + 1 + 1, 1, none⟩ (.slice P1 n1 d1) := ⟨_, rfl⟩
            have hra := HR4.out.setK
            rw [← hWa] at hra
            rw [← hWa]
            have HRa := Lib.hid hra
            clear hWa hra y0 y1 y2 y3 f0 f1 f2 f3
            refine anyU_ready (rs := [20]) (by kernel_rfl) (by simp) (AllU.cons (o := ⟨some 43, .fieldAddr 27 (.tmp 5) 2, _, _, _, none⟩) rfl (fun K hK => ?_) (fun _ => by kernel_rfl) AllU.nil)
            rw [if_pos (by rfl)]
            go_simp
            refine hK.out _ _ (fun h => absurd h (by decide)) ?_
            clear hK K
            try go_frame
            refine anyU_ready (rs := [21]) (by kernel_rfl) (by simp) (AllU.cons (o := ⟨none, .store 24 (.tmp 43) (.tmp 41), _, _, _, none⟩) rfl (fun K hK => ?_) (fun _ => by kernel_rfl) AllU.nil)
            rw [if_pos (by rfl)]
            obtain ⟨y0, y1, y2, y3, f0, f1, f2, f3⟩ := out_cells HRa.out.nm.top
            go_simp
            refine hK.out _ _ (fun h => absurd h (by decide)) ?_
            clear hK K
            try go_frame
            obtain ⟨wz, hWb⟩ : ∃ X, X = Wa.setCell ⟨w.heap.size + 1 + 1, 2, none⟩ (.slice P2 n2 d2) := ⟨_, rfl⟩
            have hrb := HRa.out.setV
            rw [← hWb] at hrb
            rw [← hWb]
            have HRb := Lib.hid hrb
            clear hWb hrb y0 y1 y2 y3 f0 f1 f2 f3 HRa Sx4
            refine anyU_done (by kernel_rfl) ?_ _
            go_wp2_with fail
            go_roundw
            case rel =>
              refine ⟨k + 1, P1, P2, n1, d1, n2, d2, by omega, by go_num, Lib.hid ?_⟩
              obtain ⟨g1, g2, -, -⟩ := HD.out
              rw [g1 k hlt Hkp.out, g2 k hlt Hkp.out, ← HKk.out, ← HVv.out]
              exact HRb.out
            case measure => simp [intOf]; omega
          · rw [if_pos (by rfl)]
            obtain ⟨v2, hu⟩ : ∃ u, u = v1.alloc (.cells #[.slice Bc nc dc] 22) := ⟨_, rfl⟩
            have hb : Below v1.heap.size v1 v2 := by rw [hu]; exact (Below.refl v1.heap.size v1).alloc (Nat.le_refl _) (.cells #[.slice Bc nc dc] 22)
            have hrw : RowT v2 B0 (w.heap.size + 1 + 1 + 1) v1.heap.size (.slice Bc nc dc) (vv) := by rw [hu]; exact RowT.lit (HR1.out.txt HVr.out) (by omega)
            have HR2 := Lib.hid (HR1.out.kept hb)
            have NE := Lib.hid HR1.out.neK
            have HKr2 := Lib.hid (HKr1.out.kept hb (by omega))
            have HVr2 := Lib.hid hrw
            go_simp
            rw [← hu]
            have Sx2 := T_ HR2.out
            refine hK.out _ _ (fun _ => Sx2) ?_
            clear hK K Sx1 hu hb hrw
            try go_frame
            refine anyU_ready (rs := [8]) (by kernel_rfl) (by simp) (AllU.cons (o := ⟨some 32, .call { callee := .builtin .append, args := #[.tmp 25, .tmp 31], argTypes := #[24, 24] }, _, _, _, none⟩) rfl (fun K hK => ?_) (fun h => absurd h (by decide)) AllU.nil)
            rw [if_pos (by rfl)]
            obtain ⟨P1, n1, d1, v3, hrun, hr2, hg, hbb⟩ := HR2.out.appK HKr2.out (by have := HDl.out n.keys k; omega)
            have Hrun := Lib.hid hrun
            have HR3 := Lib.hid hr2
            have HVr3 := Lib.hid (HVr2.out.grown hg NE.out HR2.out.nm.rK.rowB (by omega))
            clear hrun hr2 hg hbb
            refine wp_run (.slice P1 n1 d1) v3 (exec_append (t := 24) (x := .tmp 25) (y := .tmp 31) rfl rfl rfl Hrun.out) ?_
            have Sx3 := T_ HR3.out
            refine hK.out _ _ (fun _ => Sx3) ?_
            clear hK K Sx2 Hrun
            go_frame
            refine' anyU_take0 (i := 18) (oi := ⟨some 42, .fieldAddr 27 (.tmp 5) 1, _, _, _, none⟩) (v := _) rfl (by kernel_rfl) (fun _ _ _ h => h) (Or.inl ⟨by rfl, ?hy16⟩) (by assumption) ?rest16
            case hy16 => (intro w hSw; go_simp <;> with_reducible rfl)
            case rest16 =>
            go_frame
            refine anyU_ready (rs := [17]) (by kernel_rfl) (by simp) (AllU.cons (o := ⟨some 41, .call { callee := .builtin .append, args := #[.tmp 34, .tmp 40], argTypes := #[24, 24] }, _, _, _, none⟩) rfl (fun K hK => ?_) (fun h => absurd h (by decide)) AllU.nil)
            rw [if_pos (by rfl)]
            obtain ⟨P2, n2, d2, v4, hrun, hr2, hg, hbb⟩ := HR3.out.appV HVr3.out (by have := HDl.out n.vals k; omega)
            have Hrun := Lib.hid hrun
            have HR4 := Lib.hid hr2
            clear hrun hr2 hg hbb
            refine wp_run (.slice P2 n2 d2) v4 (exec_append (t := 24) (x := .tmp 34) (y := .tmp 40) rfl rfl rfl Hrun.out) ?_
            have Sx4 := T_ HR4.out
            refine hK.out _ _ (fun _ => Sx4) ?_
            clear hK K Sx3 Hrun
            go_frame
            refine anyU_ready (rs := [19]) (by kernel_rfl) (by simp) (AllU.cons (o := ⟨none, .store 24 (.tmp 42) (.tmp 32), _, _, _, none⟩) rfl (fun K hK => ?_) (fun _ => by kernel_rfl) AllU.nil)
            rw [if_pos (by rfl)]
            obtain ⟨y0, y1, y2, y3, f0, f1, f2, f3⟩ := out_cells HR4.out.nm.top
            go_simp
            refine hK.out _ _ (fun h => absurd h (by decide)) ?_
            clear hK K
            try go_frame
            obtain ⟨Wa, hWa⟩ : ∃ X, X = v4.setCell ⟨w.heap.size + 1 + 1, 1, none⟩ (.slice P1 n1 d1) := ⟨_, rfl⟩
            have hra := HR4.out.setK
            rw [← hWa] at hra
            rw [← hWa]
            have HRa := Lib.hid hra
            clear hWa hra y0 y1 y2 y3 f0 f1 f2 f3
            refine anyU_ready (rs := [20]) (by kernel_rfl) (by simp) (AllU.cons (o := ⟨some 43, .fieldAddr 27 (.tmp 5) 2, _, _, _, none⟩) rfl (fun K hK => ?_) (fun _ => by kernel_rfl) AllU.nil)
            rw [if_pos (by rfl)]
            go_simp
            refine hK.out _ _ (fun h => absurd h (by decide)) ?_
            clear hK K
            try go_frame
            refine anyU_ready (rs := [21]) (by kernel_rfl) (by simp) (AllU.cons (o := ⟨none, .store 24 (.tmp 43) (.tmp 41), _, _, _, none⟩) rfl (fun K hK => ?_) (fun _ => by kernel_rfl) AllU.nil)
            rw [if_pos (by rfl)]
            obtain ⟨y0, y1, y2, y3, f0, f1, f2, f3⟩ := out_cells HRa.out.nm.top
            go_simp
            refine hK.out _ _ (fun h => absurd h (by decide)) ?_
            clear hK K
            try go_frame
            obtain ⟨wz, hWb⟩ : ∃ X, X = Wa.setCell ⟨w.heap.size + 1 + 1, 2, none⟩ (.slice P2 n2 d2) := ⟨_, rfl⟩
            have hrb := HRa.out.setV
            rw [← hWb] at hrb
            rw [← hWb]
            have HRb := Lib.hid hrb
            clear hWb hrb y0 y1 y2 y3 f0 f1 f2 f3 HRa Sx4
            refine anyU_done (by kernel_rfl) ?_ _
            go_wp2_with fail
            go_roundw
            case rel =>
              refine ⟨k + 1, P1, P2, n1, d1, n2, d2, by omega, by go_num, Lib.hid ?_⟩
              obtain ⟨g1, g2, -, -⟩ := HD.out
              rw [g1 k hlt Hkp.out, g2 k hlt Hkp.out, ← HKk.out, ← HVv.out]
              exact HRb.out
            case measure => simp [intOf]; omega
        · rw [if_pos (by rfl)]
          obtain ⟨v1, hu⟩ : ∃ u, u = wd.alloc (.cells #[.slice Bc nc dc] 22) := ⟨_, rfl⟩
          have hb : Below wd.heap.size wd v1 := by rw [hu]; exact (Below.refl wd.heap.size wd).alloc (Nat.le_refl _) (.cells #[.slice Bc nc dc] 22)
          have hrw : RowT v1 B0 (w.heap.size + 1 + 1 + 1) wd.heap.size (.slice Bc nc dc) (vv) := by rw [hu]; exact RowT.lit (HR0.out.txt HVr.out) (by omega)
          have HR1 := Lib.hid (HR0.out.kept hb)
          have NE := Lib.hid HR0.out.neK
          have HVr1 := Lib.hid hrw
          go_simp
          rw [← hu]
          have Sx1 := T_ HR1.out
          refine hK.out _ _ (fun _ => Sx1) ?_
          clear hK K S0 hu hb hrw
          try go_frame
          refine anyU_ready (rs := [7]) (by kernel_rfl) (by simp) (AllU.cons (o := ⟨some 31, .buildSlice 24 1 #[(0, .tmp 30)], _, _, _, none⟩) rfl (fun K hK => ?_) (fun h => absurd h (by decide)) AllU.nil)
          rw [if_pos (by rfl)]
          obtain ⟨v2, hu⟩ : ∃ u, u = v1.alloc (.cells #[.slice Ac mc cc] 22) := ⟨_, rfl⟩
          have hb : Below v1.heap.size v1 v2 := by rw [hu]; exact (Below.refl v1.heap.size v1).alloc (Nat.le_refl _) (.cells #[.slice Ac mc cc] 22)
          have hrw : RowT v2 B0 (w.heap.size + 1 + 1 + 1) v1.heap.size (.slice Ac mc cc) (kk) := by rw [hu]; exact RowT.lit (HR1.out.txt HKr.out) (by omega)
          have HR2 := Lib.hid (HR1.out.kept hb)
          have HVr2 := Lib.hid (HVr1.out.kept hb (by omega))
          have HKr2 := Lib.hid hrw
          go_simp
          rw [← hu]
          have Sx2 := T_ HR2.out
          refine hK.out _ _ (fun _ => Sx2) ?_
          clear hK K Sx1 hu hb hrw
          try go_frame
          refine anyU_ready (rs := [8]) (by kernel_rfl) (by simp) (AllU.cons (o := ⟨some 32, .call { callee := .builtin .append, args := #[.tmp 25, .tmp 31], argTypes := #[24, 24] }, _, _, _, none⟩) rfl (fun K hK => ?_) (fun h => absurd h (by decide)) AllU.nil)
          rw [if_pos (by rfl)]
          obtain ⟨P1, n1, d1, v3, hrun, hr2, hg, hbb⟩ := HR2.out.appK HKr2.out (by have := HDl.out n.keys k; omega)
          have Hrun := Lib.hid hrun
          have HR3 := Lib.hid hr2
          have HVr3 := Lib.hid (HVr2.out.grown hg NE.out HR2.out.nm.rK.rowB (by omega))
          clear hrun hr2 hg hbb
          refine wp_run (.slice P1 n1 d1) v3 (exec_append (t := 24) (x := .tmp 25) (y := .tmp 31) rfl rfl rfl Hrun.out) ?_
          have Sx3 := T_ HR3.out
          refine hK.out _ _ (fun _ => Sx3) ?_
          clear hK K Sx2 Hrun
          go_frame
          refine' anyU_take0 (i := 18) (oi := ⟨some 42, .fieldAddr 27 (.tmp 5) 1, _, _, _, none⟩) (v := _) rfl (by kernel_rfl) (fun _ _ _ h => h) (Or.inl ⟨by rfl, ?hy17⟩) (by assumption) ?rest17
          case hy17 => (intro w hSw; go_simp <;> with_reducible rfl)
          case rest17 =>
          go_frame
          refine anyU_ready (rs := [17]) (by kernel_rfl) (by simp) (AllU.cons (o := ⟨some 41, .call { callee := .builtin .append, args := #[.tmp 34, .tmp 40], argTypes := #[24, 24] }, _, _, _, none⟩) rfl (fun K hK => ?_) (fun h => absurd h (by decide)) AllU.nil)
          rw [if_pos (by rfl)]
          obtain ⟨P2, n2, d2, v4, hrun, hr2, hg, hbb⟩ := HR3.out.appV HVr3.out (by have := HDl.out n.vals k; omega)
          have Hrun := Lib.hid hrun
          have HR4 := Lib.hid hr2
          clear hrun hr2 hg hbb
          refine wp_run (.slice P2 n2 d2) v4 (exec_append (t := 24) (x := .tmp 34) (y := .tmp 40) rfl rfl rfl Hrun.out) ?_
          have Sx4 := T_ HR4.out
          refine hK.out _ _ (fun _ => Sx4) ?_
          clear hK K Sx3 Hrun
          go_frame
          refine anyU_ready (rs := [19]) (by kernel_rfl) (by simp) (AllU.cons (o := ⟨none, .store 24 (.tmp 42) (.tmp 32), _, _, _, none⟩) rfl (fun K hK => ?_) (fun _ => by kernel_rfl) AllU.nil)
          rw [if_pos (by rfl)]
          obtain ⟨y0, y1, y2, y3, f0, f1, f2, f3⟩ := out_cells HR4.out.nm.top
          go_simp
          refine hK.out _ _ (fun h => absurd h (by decide)) ?_
          clear hK K
          try go_frame
          obtain ⟨Wa, hWa⟩ : ∃ X, X = v4.setCell ⟨w.heap.size + 1 + 1, 1, none⟩ (.slice P1 n1 d1) := ⟨_, rfl⟩
          have hra := HR4.out.setK
          rw [← hWa] at hra
          rw [← hWa]
          have HRa := Lib.hid hra
          clear hWa hra y0 y1 y2 y3 f0 f1 f2 f3
          refine anyU_ready (rs := [20]) (by kernel_rfl) (by simp) (AllU.cons (o := ⟨some 43, .fieldAddr 27 (.tmp 5) 2, _, _, _, none⟩) rfl (fun K hK => ?_) (fun _ => by kernel_rfl) AllU.nil)
          rw [if_pos (by rfl)]
          go_simp
          refine hK.out _ _ (fun h => absurd h (by decide)) ?_
          clear hK K
          try go_frame
          refine anyU_ready (rs := [21]) (by kernel_rfl) (by simp) (AllU.cons (o := ⟨none, .store 24 (.tmp 43) (.tmp 41), _, _, _, none⟩) rfl (fun K hK => ?_) (fun _ => by kernel_rfl) AllU.nil)
          rw [if_pos (by rfl)]
          obtain ⟨y0, y1, y2, y3, f0, f1, f2, f3⟩ := out_cells HRa.out.nm.top
          go_simp
          refine hK.out _ _ (fun h => absurd h (by decide)) ?_
          clear hK K
          try go_frame
          obtain ⟨wz, hWb⟩ : ∃ X, X = Wa.setCell ⟨w.heap.size + 1 + 1, 2, none⟩ (.slice P2 n2 d2) := ⟨_, rfl⟩
          have hrb := HRa.out.setV
          rw [← hWb] at hrb
          rw [← hWb]
          have HRb := Lib.hid hrb
          clear hWb hrb y0 y1 y2 y3 f0 f1 f2 f3 HRa Sx4
          refine anyU_done (by kernel_rfl) ?_ _
          go_wp2_with fail
          go_roundw
          case rel =>
            refine ⟨k + 1, P1, P2, n1, d1, n2, d2, by omega, by go_num, Lib.hid ?_⟩
            obtain ⟨g1, g2, -, -⟩ := HD.out
            rw [g1 k hlt Hkp.out, g2 k hlt Hkp.out, ← HKk.out, ← HVv.out]
            exact HRb.out
          case measure => simp [intOf]; omega
    · have hka : k = a := by omega
      subst hka
      obtain ⟨z0, z1, z2, z3, -, -, -, -⟩ := out_cells HR.out.nm.top
      obtain ⟨y0, y1, y2, y3, f0, f1, f2, f3⟩ := out_cells HR.out.out
      have hdn := HR.out.done
      rw [HAll.out.1, HAll.out.2] at hdn
      have hbx := box_of_top (store4_top (lf := true) (K := .slice T1 t1 e1) (V := .slice T2 t2 e2) (D := .slice none 0 0) HR.out.out)
      obtain ⟨W, hW⟩ : ∃ X, X = store4 wr (w.heap.size + 1) true (.slice T1 t1 e1) (.slice T2 t2 e2) (.slice none 0 0) := ⟨_, rfl⟩
      rw [← hW] at hdn hbx
      obtain ⟨q0, q1, q2, q3⟩ := hbx
      have HDn := Lib.hid hdn
      have HWW := Lib.hid hW
      clear hdn hW
      go_wp2_with fail
      have hW := HWW.out
      unfold store4 at hW
      rw [← hW]
      exact bodyPost_ret (v := ndVal true (.slice T1 t1 e1) (.slice T2 t2 e2) (.slice none 0 0)) (by simp [results, Try.results22, go_sem, q0, q1, q2, q3]) rfl ⟨_, _, rfl, HDn.out.1, HDn.out.2.1, HDn.out.2.2⟩
end Go.Proofs.Ytceefoopehoalaa
