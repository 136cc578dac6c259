/-
  Write's ways: writeUDP.
-/
import Derived.Test.YtpgibabgedokpaaSgF
namespace Go.Proofs.Ytpgibabgedokpaa
open Go.RowKit
/-- What lies ahead of the sum. -/
def sgFirstU (s : Sg) (n : Nat) : List UInt8 := (be 2 s.src ++ be 2 s.dst) ++ be 2 n
theorem sgOwn_udp {h : Hd} (hw : h.Wide) (h17 : h.proto = 17) (s : Sg) (data : List UInt8) : sgOwn h s data = sumOf (sgPseudo h (8 + data.length) ++ (sgFirstU s (8 + data.length) ++ data)) ∧ ∀ n, sgRaw h s data n = (sgFirstU s (8 + data.length) ++ be 2 n) ++ data := by
  have h6 : h.proto ≠ 6 := by rw [h17]; decide
  have hr : ∀ n, sgRaw h s data n = sgFirstU s (8 + data.length) ++ (be 2 n ++ data) := fun n => by
    unfold sgRaw sgFirstU
    rw [if_neg h6]
  have hp := (sgPseudo_length hw (8 + data.length)).1
  constructor
  · unfold sgOwn
    rw [sgRaw_length, if_neg h6, hr 0]
    unfold sumOf
    have := tot_zeros (sgPseudo h (8 + data.length) ++ sgFirstU s (8 + data.length)) data (by rw [List.length_append]; simp [sgFirstU, be_length]; omega)
    simp only [List.append_assoc] at this ⊢
    rw [this]
  · intro n
    rw [hr]
    simp only [List.append_assoc]
/-- What writeUDP calls. -/
structure UdpFacts (h : Hd) (s : Sg) (data F P : List UInt8) (k o : Nat) (A : Option Addr) (m c : Nat) (w : World) : Prop where
  ports : ∀ W, Calls Try.prog 53 #[sgV s] W fun e w' => ∃ A n c, e = .returned (.slice A n c) ∧ Rd w' w'.heap.size (.slice A n c) (cellsB (be 2 s.src ++ be 2 s.dst)) ∧ Below W.heap.size W w'
  first : ∀ W A1 n1 c1, Rd W W.heap.size (.slice A1 n1 c1) (cellsB (be 2 s.src ++ be 2 s.dst)) → Calls Try.prog 36 #[.slice A1 n1 c1, .int .u64 (k : Int), .int .i64 2] W fun e w' => ∃ A n c, e = .returned (.slice A n c) ∧ Rd w' w'.heap.size (.slice A n c) (cellsB F) ∧ Below W.heap.size W w'
  pseudo : ∀ W, Calls Try.prog 54 #[.agg (hdC h).toArray, .int .i64 (k : Int)] W fun e w' => ∃ A n c, e = .returned (.slice A n c) ∧ Rd w' w'.heap.size (.slice A n c) (cellsB P) ∧ Below W.heap.size W w'
  sum : ∀ W A1 n1 c1 A2 n2 c2, Below w.heap.size w W → Rd W W.heap.size (.slice A1 n1 c1) (cellsB P) → Rd W W.heap.size (.slice A2 n2 c2) (cellsB F) → Calls Try.prog 40 #[.slice (some ⟨W.heap.size, 0, none⟩) 3 3] (W.alloc (.cells #[.slice A1 n1 c1, .slice A2 n2 c2, .slice A m c] 22)) fun e w' => e = .returned (.int .u16 (o : Int)) ∧ Below W.heap.size W w'
  put : ∀ (n : Nat) W A1 n1 c1, Rd W W.heap.size (.slice A1 n1 c1) (cellsB F) → Calls Try.prog 36 #[.slice A1 n1 c1, .int .u64 (n : Int), .int .i64 2] W fun e w' => ∃ A n2 c, e = .returned (.slice A n2 c) ∧ Rd w' w'.heap.size (.slice A n2 c) (cellsB (F ++ be 2 n)) ∧ Below W.heap.size W w'
  all : ∀ (n : Nat) W A1 n1 c1, Below w.heap.size w W → Rd W W.heap.size (.slice A1 n1 c1) (cellsB (F ++ be 2 n)) → Calls Try.prog 37 #[.slice (some ⟨W.heap.size, 0, none⟩) 2 2] (W.alloc (.cells #[.slice A1 n1 c1, .slice A m c] 22)) fun e w' => ∃ v, e = .returned v ∧ Mine w' W.heap.size 5 v (cellsB (sgRaw h s data n)) ∧ Below W.heap.size W w'
theorem udpFacts (h : Hd) (hw : h.Wide) (h17 : h.proto = 17) (s : Sg) (hs : s.src < 65536 ∧ s.dst < 65536) (data : List UInt8) (hd : data.length ≤ 1900) (A : Option Addr) (c : Nat) (w : World) (hr : Rd w w.heap.size (.slice A data.length c) (cellsB data)) : UdpFacts h s data (sgFirstU s (8 + data.length)) (sgPseudo h (8 + data.length)) (8 + data.length) (sgOwn h s data) A data.length c w := by
  obtain ⟨e1, e2⟩ := sgOwn_udp hw h17 s data
  have lF : (sgFirstU s (8 + data.length)).length = 6 := by simp [sgFirstU, be_length]
  have lP := (sgPseudo_length hw (8 + data.length)).2.1
  refine ⟨fun W => sgPortsOf_any s hs W, ?_, ?_, ?_, ?_, ?_⟩
  · intro W A1 n1 c1 r1
    exact (put_of (8 + data.length) W _ _ 2 2 rfl (by simp [be_length]) (by omega) (by omega) r1).mono fun e w' ⟨A, m, c, e1, e2, e3⟩ => ⟨A, m, c, e1, e2.rd, e3⟩
  · intro W
    exact (sgPseudo_any h hw _ _ (IntWalk.u64_in _ (by omega)) W).mono fun e w' h => rd_of h
  · intro W A1 n1 c1 A2 n2 c2 hW r1 r2
    have := inSum_any (RdAll.lit3 W 22 _ _ _ _ _ _ r1 r2 ((hr.below hW).more hW.size)) (by simp [lF]; omega)
    rw [e1]
    refine this.mono fun e w' h => ?_
    obtain ⟨rfl, rfl⟩ := h
    refine ⟨by simp, up_alloc (Below.refl _ _) _⟩
  · intro n W A1 n1 c1 r1
    exact (put_of n W _ _ 2 2 rfl (by omega) (by omega) (by omega) r1).mono fun e w' ⟨A, m, c, e1, e2, e3⟩ => ⟨A, m, c, e1, e2.rd, e3⟩
  · intro n W A1 n1 c1 hW r1
    have := bytes_two _ _ _ _ 22 W _ r1 ((hr.below hW).more hW.size) (Nat.le_refl _) (by simp [be_length, lF]; omega)
    rw [← e2] at this
    exact this
set_option maxRecDepth 100000 in
set_option maxHeartbeats 2000000 in
theorem sgWriteUdp_any (h : Hd) (hw : h.Wide) (h17 : h.proto = 17) (s : Sg) (hs : s.src < 65536 ∧ s.dst < 65536) (data : List UInt8) (hd : data.length ≤ 1900) (A : Option Addr) (c : Nat) (w : World) (hr : Rd w w.heap.size (.slice A data.length c) (cellsB data)) :
    Calls Try.prog 34 #[hdV h, sgV s, .slice A data.length c] w fun e w' => ∃ v, e = .returned v ∧ Mine w' w.heap.size 5 v (cellsB (sgBytes h s data)) ∧ Below w.heap.size w w' := by
  obtain ⟨X, hX⟩ : ∃ X, X = (w.alloc (.cells (hdC h).toArray 28)).alloc (.cells (sgC s).toArray 31) := ⟨_, rfl⟩
  have HH := udpFacts h hw h17 s hs data hd A c w hr
  have hXs : X.heap.size = w.heap.size + 1 + 1 := by rw [hX]; simp
  have hXb := Lib.hid (show Below w.heap.size w X by rw [hX]; exact up_alloc (up_alloc (Below.refl _ _) _) _)
  have hat1 : HdAt X w.heap.size h := by rw [hX]; exact (heap_alloc_old _ _ (by simp)).trans (heap_alloc_last w _)
  have hat2 : SgAt X (w.heap.size + 1) s := by
    rw [hX]
    have := heap_alloc_last (w.alloc (.cells (hdC h).toArray 28)) (.cells (sgC s).toArray 31)
    rwa [show (w.alloc (.cells (hdC h).toArray 28)).heap.size = w.heap.size + 1 by simp] at this
  have hF : Hid (∀ W, Below X.heap.size X W → W.cell? ⟨w.heap.size + 1, 4, none⟩ = some (.bool s.zero) ∧ W.cell? ⟨w.heap.size, 0, none⟩ = some (.bool h.six) ∧ W.heap[w.heap.size]? = some (.cells (hdC h).toArray 28 (0, 0))) := Lib.hid fun W hW =>
    ⟨(sgC_cell (hat2.below hW (by omega))).2.2.2.2.1, hdC_six (hat1.below hW (by omega)), hat1.below hW (by omega)⟩
  have hi := info_hdA hw
  have hsi := info_sgA s
  have hol : sgOwn h s data ≤ 65535 := sumOf_le _
  have hbare : sgBare h s = (s.zero && !h.six) := by unfold sgBare; rw [h17]; rfl
  have hsum : sgSum h s data = if (s.zero && !h.six) = true then 0 else if sgOwn h s data = 0 then 65535 else sgOwn h s data := by
    unfold sgSum
    rw [hbare]
    split
    · rfl
    · by_cases h0 : sgOwn h s data = 0
      · rw [if_pos ⟨h0, h17⟩, if_pos h0]
      · rw [if_neg (fun e => h0 e.1), if_neg h0]
  unfold sgBytes
  obtain ⟨m, hm⟩ : ∃ m, m = data.length := ⟨_, rfl⟩
  rw [← hm] at HH hd ⊢
  have hwm : IntKind.i64.wrap (8 + (m : Int)) = ((8 + m : Nat) : Int) := by rw [IntWalk.i64_in _ (by omega)]; omega
  generalize sgPseudo h (8 + m) = PP at *
  generalize sgFirstU s (8 + m) = F at *
  obtain ⟨k, hk⟩ : ∃ k, k = 8 + m := ⟨_, rfl⟩
  rw [← hk] at hwm HH
  have hwk : IntKind.u64.wrap (k : Int) = (k : Int) := IntWalk.u64_in _ (by omega)
  have H1 := Lib.hid HH.ports
  have H2 := Lib.hid HH.first
  have H4 := Lib.hid HH.pseudo
  have H5 := Lib.hid HH.sum
  have H6 := HH.put
  have H7 := HH.all
  unfold SgAt at hat2
  unfold hdV sgV
  unfold sgV at H1
  rw [hsum]
  generalize (hdC h).toArray = C at *
  generalize (sgC s).toArray = SC at *
  have hat3 : X.heap[w.heap.size + 1]? = some (.cells SC 31 (0, 0)) := hat2
  clear HH hs hw hr hm hk hXs hat1 hat2 hbare hsum hd
  generalize sgOwn h s data = o at *
  cases hz : s.zero with
  | false =>
    rw [hz] at hF
    rw [Bool.false_and, if_neg (by decide)]
    by_cases h0 : o = 0
    · rw [if_pos h0]
      subst h0
      have hwn : IntKind.u64.wrap ((65535 : Nat) : Int) = ((65535 : Nat) : Int) := IntWalk.u64_in _ (by omega)
      have H6n := Lib.hid (H6 65535)
      have H7n := Lib.hid (H7 65535)
      clear H6 H7 hol
      subst hX
      go_enter Try.func34, Try.ntmps34
      go_wp2_with (first
        | ((with_reducible refine wpList_load_row (o := ⟨some 13, .load 31 (.tmp 4), _, _, _, _⟩) rfl 31 (.tmp 4) rfl (w.heap.size + 1) ?_ 31 SC (0, 0) _ hat3 Try.underlying31 rfl hsi ?_); exact rfl)
        | (go_at_call 53; refine (H1.out _).mono ?_; rintro _ wp ⟨Ap, np, cp, rfl, hrp, hbp⟩; have HRP := Lib.hid hrp; have HBP := Lib.hid hbp; clear hrp hbp)
        | (go_at_call 36; have hx1 := HRF; clear hx1; refine (H6n.out _ _ _ _ HRF.out).mono ?_; rintro _ wa ⟨Aa, na, ca, rfl, hra, hba⟩; have HRA := Lib.hid hra; have HBA := Lib.hid (up HBS.out hba); clear hra hba)
        | (go_at_call 36; refine (H2.out _ _ _ _ HRP.out).mono ?_; rintro _ wf ⟨Af, nf, cf, rfl, hrf, hbf⟩; have HRF := Lib.hid hrf; have HBF := Lib.hid (up HBP.out hbf); obtain ⟨c4, c0, hatL⟩ := hF.out _ HBF.out; clear hrf hbf HRP H2)
        | ((with_reducible refine wpList_load_row (o := ⟨some 25, .load 28 (.tmp 3), _, _, _, _⟩) rfl 28 (.tmp 3) rfl w.heap.size ?_ 28 C (0, 0) _ hatL Try.underlying28 rfl hi ?_); exact rfl)
        | (go_at_call 54; refine (H4.out _).mono ?_; rintro _ wq ⟨Aq, nq, cq, rfl, hrq, hbq⟩; have HRQ := Lib.hid hrq; replace HRF := Lib.hid ((HRF.out.below hbq).more hbq.size); have HBQ := Lib.hid (up HBF.out hbq); clear hrq hbq)
        | (go_at_call 40; refine (H5.out _ _ _ _ _ _ _ (up hXb.out HBQ.out) HRQ.out HRF.out).mono ?_; rintro _ ws ⟨rfl, hbs⟩; replace HRF := Lib.hid ((HRF.out.below hbs).more hbs.size); have HBS := Lib.hid (up HBQ.out hbs); clear hbs)
        | (go_at_call 37; refine (H7n.out _ _ _ _ (up hXb.out HBA.out) HRA.out).mono ?_; rintro _ wz ⟨v, rfl, hv, hb⟩; have HT := Lib.hid (And.intro (hv.weaken (base' := w.heap.size) (by have := (up hXb.out HBA.out).size; omega)) (up (up hXb.out HBA.out) hb)); clear hv hb))
      go_ret
      exact ⟨_, rfl, HT.out.1, HT.out.2⟩
    · rw [if_neg h0]
      have k0 := beq_zero h0
      have hwn : IntKind.u64.wrap (o : Int) = (o : Int) := IntWalk.u64_in _ (by omega)
      have H6n := Lib.hid (H6 o)
      have H7n := Lib.hid (H7 o)
      clear H6 H7 hol h0
      subst hX
      go_enter Try.func34, Try.ntmps34
      go_wp2_with (first
        | ((with_reducible refine wpList_load_row (o := ⟨some 13, .load 31 (.tmp 4), _, _, _, _⟩) rfl 31 (.tmp 4) rfl (w.heap.size + 1) ?_ 31 SC (0, 0) _ hat3 Try.underlying31 rfl hsi ?_); exact rfl)
        | (go_at_call 53; refine (H1.out _).mono ?_; rintro _ wp ⟨Ap, np, cp, rfl, hrp, hbp⟩; have HRP := Lib.hid hrp; have HBP := Lib.hid hbp; clear hrp hbp)
        | (go_at_call 36; have hx1 := HRF; clear hx1; refine (H6n.out _ _ _ _ HRF.out).mono ?_; rintro _ wa ⟨Aa, na, ca, rfl, hra, hba⟩; have HRA := Lib.hid hra; have HBA := Lib.hid (up HBS.out hba); clear hra hba)
        | (go_at_call 36; refine (H2.out _ _ _ _ HRP.out).mono ?_; rintro _ wf ⟨Af, nf, cf, rfl, hrf, hbf⟩; have HRF := Lib.hid hrf; have HBF := Lib.hid (up HBP.out hbf); obtain ⟨c4, c0, hatL⟩ := hF.out _ HBF.out; clear hrf hbf HRP H2)
        | ((with_reducible refine wpList_load_row (o := ⟨some 25, .load 28 (.tmp 3), _, _, _, _⟩) rfl 28 (.tmp 3) rfl w.heap.size ?_ 28 C (0, 0) _ hatL Try.underlying28 rfl hi ?_); exact rfl)
        | (go_at_call 54; refine (H4.out _).mono ?_; rintro _ wq ⟨Aq, nq, cq, rfl, hrq, hbq⟩; have HRQ := Lib.hid hrq; replace HRF := Lib.hid ((HRF.out.below hbq).more hbq.size); have HBQ := Lib.hid (up HBF.out hbq); clear hrq hbq)
        | (go_at_call 40; refine (H5.out _ _ _ _ _ _ _ (up hXb.out HBQ.out) HRQ.out HRF.out).mono ?_; rintro _ ws ⟨rfl, hbs⟩; replace HRF := Lib.hid ((HRF.out.below hbs).more hbs.size); have HBS := Lib.hid (up HBQ.out hbs); clear hbs)
        | (go_at_call 37; refine (H7n.out _ _ _ _ (up hXb.out HBA.out) HRA.out).mono ?_; rintro _ wz ⟨v, rfl, hv, hb⟩; have HT := Lib.hid (And.intro (hv.weaken (base' := w.heap.size) (by have := (up hXb.out HBA.out).size; omega)) (up (up hXb.out HBA.out) hb)); clear hv hb))
      go_ret
      exact ⟨_, rfl, HT.out.1, HT.out.2⟩
  | true =>
    rw [hz] at hF
    cases hsx : h.six with
    | true =>
      rw [hsx] at hF
      rw [Bool.not_true, Bool.and_false, if_neg (by decide)]
      by_cases h0 : o = 0
      · rw [if_pos h0]
        subst h0
        have hwn : IntKind.u64.wrap ((65535 : Nat) : Int) = ((65535 : Nat) : Int) := IntWalk.u64_in _ (by omega)
        have H6n := Lib.hid (H6 65535)
        have H7n := Lib.hid (H7 65535)
        clear H6 H7 hol
        subst hX
        go_enter Try.func34, Try.ntmps34
        go_wp2_with (first
          | ((with_reducible refine wpList_load_row (o := ⟨some 13, .load 31 (.tmp 4), _, _, _, _⟩) rfl 31 (.tmp 4) rfl (w.heap.size + 1) ?_ 31 SC (0, 0) _ hat3 Try.underlying31 rfl hsi ?_); exact rfl)
          | (go_at_call 53; refine (H1.out _).mono ?_; rintro _ wp ⟨Ap, np, cp, rfl, hrp, hbp⟩; have HRP := Lib.hid hrp; have HBP := Lib.hid hbp; clear hrp hbp)
          | (go_at_call 36; have hx1 := HRF; clear hx1; refine (H6n.out _ _ _ _ HRF.out).mono ?_; rintro _ wa ⟨Aa, na, ca, rfl, hra, hba⟩; have HRA := Lib.hid hra; have HBA := Lib.hid (up HBS.out hba); clear hra hba)
          | (go_at_call 36; refine (H2.out _ _ _ _ HRP.out).mono ?_; rintro _ wf ⟨Af, nf, cf, rfl, hrf, hbf⟩; have HRF := Lib.hid hrf; have HBF := Lib.hid (up HBP.out hbf); obtain ⟨c4, c0, hatL⟩ := hF.out _ HBF.out; clear hrf hbf HRP H2)
          | ((with_reducible refine wpList_load_row (o := ⟨some 25, .load 28 (.tmp 3), _, _, _, _⟩) rfl 28 (.tmp 3) rfl w.heap.size ?_ 28 C (0, 0) _ hatL Try.underlying28 rfl hi ?_); exact rfl)
          | (go_at_call 54; refine (H4.out _).mono ?_; rintro _ wq ⟨Aq, nq, cq, rfl, hrq, hbq⟩; have HRQ := Lib.hid hrq; replace HRF := Lib.hid ((HRF.out.below hbq).more hbq.size); have HBQ := Lib.hid (up HBF.out hbq); clear hrq hbq)
          | (go_at_call 40; refine (H5.out _ _ _ _ _ _ _ (up hXb.out HBQ.out) HRQ.out HRF.out).mono ?_; rintro _ ws ⟨rfl, hbs⟩; replace HRF := Lib.hid ((HRF.out.below hbs).more hbs.size); have HBS := Lib.hid (up HBQ.out hbs); clear hbs)
          | (go_at_call 37; refine (H7n.out _ _ _ _ (up hXb.out HBA.out) HRA.out).mono ?_; rintro _ wz ⟨v, rfl, hv, hb⟩; have HT := Lib.hid (And.intro (hv.weaken (base' := w.heap.size) (by have := (up hXb.out HBA.out).size; omega)) (up (up hXb.out HBA.out) hb)); clear hv hb))
        go_ret
        exact ⟨_, rfl, HT.out.1, HT.out.2⟩
      · rw [if_neg h0]
        have k0 := beq_zero h0
        have hwn : IntKind.u64.wrap (o : Int) = (o : Int) := IntWalk.u64_in _ (by omega)
        have H6n := Lib.hid (H6 o)
        have H7n := Lib.hid (H7 o)
        clear H6 H7 hol h0
        subst hX
        go_enter Try.func34, Try.ntmps34
        go_wp2_with (first
          | ((with_reducible refine wpList_load_row (o := ⟨some 13, .load 31 (.tmp 4), _, _, _, _⟩) rfl 31 (.tmp 4) rfl (w.heap.size + 1) ?_ 31 SC (0, 0) _ hat3 Try.underlying31 rfl hsi ?_); exact rfl)
          | (go_at_call 53; refine (H1.out _).mono ?_; rintro _ wp ⟨Ap, np, cp, rfl, hrp, hbp⟩; have HRP := Lib.hid hrp; have HBP := Lib.hid hbp; clear hrp hbp)
          | (go_at_call 36; have hx1 := HRF; clear hx1; refine (H6n.out _ _ _ _ HRF.out).mono ?_; rintro _ wa ⟨Aa, na, ca, rfl, hra, hba⟩; have HRA := Lib.hid hra; have HBA := Lib.hid (up HBS.out hba); clear hra hba)
          | (go_at_call 36; refine (H2.out _ _ _ _ HRP.out).mono ?_; rintro _ wf ⟨Af, nf, cf, rfl, hrf, hbf⟩; have HRF := Lib.hid hrf; have HBF := Lib.hid (up HBP.out hbf); obtain ⟨c4, c0, hatL⟩ := hF.out _ HBF.out; clear hrf hbf HRP H2)
          | ((with_reducible refine wpList_load_row (o := ⟨some 25, .load 28 (.tmp 3), _, _, _, _⟩) rfl 28 (.tmp 3) rfl w.heap.size ?_ 28 C (0, 0) _ hatL Try.underlying28 rfl hi ?_); exact rfl)
          | (go_at_call 54; refine (H4.out _).mono ?_; rintro _ wq ⟨Aq, nq, cq, rfl, hrq, hbq⟩; have HRQ := Lib.hid hrq; replace HRF := Lib.hid ((HRF.out.below hbq).more hbq.size); have HBQ := Lib.hid (up HBF.out hbq); clear hrq hbq)
          | (go_at_call 40; refine (H5.out _ _ _ _ _ _ _ (up hXb.out HBQ.out) HRQ.out HRF.out).mono ?_; rintro _ ws ⟨rfl, hbs⟩; replace HRF := Lib.hid ((HRF.out.below hbs).more hbs.size); have HBS := Lib.hid (up HBQ.out hbs); clear hbs)
          | (go_at_call 37; refine (H7n.out _ _ _ _ (up hXb.out HBA.out) HRA.out).mono ?_; rintro _ wz ⟨v, rfl, hv, hb⟩; have HT := Lib.hid (And.intro (hv.weaken (base' := w.heap.size) (by have := (up hXb.out HBA.out).size; omega)) (up (up hXb.out HBA.out) hb)); clear hv hb))
        go_ret
        exact ⟨_, rfl, HT.out.1, HT.out.2⟩
    | false =>
      rw [hsx] at hF
      rw [Bool.not_false, Bool.and_true, if_pos rfl]
      have hwn : IntKind.u64.wrap ((0 : Nat) : Int) = ((0 : Nat) : Int) := rfl
      have H6n := Lib.hid (H6 0)
      have H7n := Lib.hid (H7 0)
      clear H6 H7 H4 H5 hol
      subst hX
      go_enter Try.func34, Try.ntmps34
      go_wp2_with (first
        | ((with_reducible refine wpList_load_row (o := ⟨some 13, .load 31 (.tmp 4), _, _, _, _⟩) rfl 31 (.tmp 4) rfl (w.heap.size + 1) ?_ 31 SC (0, 0) _ hat3 Try.underlying31 rfl hsi ?_); exact rfl)
        | (go_at_call 53; refine (H1.out _).mono ?_; rintro _ wp ⟨Ap, np, cp, rfl, hrp, hbp⟩; have HRP := Lib.hid hrp; have HBP := Lib.hid hbp; clear hrp hbp)
        | (go_at_call 36; have hx1 := HRF; clear hx1; refine (H6n.out _ _ _ _ HRF.out).mono ?_; rintro _ wa ⟨Aa, na, ca, rfl, hra, hba⟩; have HRA := Lib.hid hra; have HBA := Lib.hid (up HBF.out hba); clear hra hba)
        | (go_at_call 36; refine (H2.out _ _ _ _ HRP.out).mono ?_; rintro _ wf ⟨Af, nf, cf, rfl, hrf, hbf⟩; have HRF := Lib.hid hrf; have HBF := Lib.hid (up HBP.out hbf); obtain ⟨c4, c0, hatL⟩ := hF.out _ HBF.out; clear hrf hbf HRP H2)
        | (go_at_call 37; refine (H7n.out _ _ _ _ (up hXb.out HBA.out) HRA.out).mono ?_; rintro _ wz ⟨v, rfl, hv, hb⟩; have HT := Lib.hid (And.intro (hv.weaken (base' := w.heap.size) (by have := (up hXb.out HBA.out).size; omega)) (up (up hXb.out HBA.out) hb)); clear hv hb))
      go_ret
      exact ⟨_, rfl, HT.out.1, HT.out.2⟩
end Go.Proofs.Ytpgibabgedokpaa
