/-
  Read of a segment: a contract.
-/
import Derived.Test.YtalchhfpdojjjaaSgD
namespace Go.Proofs.Ytalchhfpdojjjaa
open Go.RowKit
def hdE (h : Hd) (b : List UInt8) : Nat := if h.proto = 6 then tcpE h b else if h.proto = 17 then udpE h b else 6
theorem sgErr_parts (h : Hd) (b : List UInt8) : sgErr h b = if hdE h b = 0 then sgPorts b else hdE h b := by
  unfold sgErr hdE sgTcp sgUdp tcpE udpE udpW
  by_cases h6 : h.proto = 6
  · rw [if_pos h6, if_pos h6]
    repeat' split
    all_goals first | rfl | omega
  · rw [if_neg h6, if_neg h6]
    by_cases h17 : h.proto = 17
    · rw [if_pos h17, if_pos h17]
      repeat' split
      all_goals first | rfl | omega
    · rw [if_neg h17, if_neg h17, if_neg (by omega)]
theorem u8_ne {p : UInt8} {k : UInt8} (h : p ≠ k) : ((p.toNat : Int) == (k.toNat : Int)) = false := by
  have : p.toNat ≠ k.toNat := fun e => h (UInt8.toNat_inj.1 e)
  simp; omega
set_option maxRecDepth 100000 in
set_option maxHeartbeats 1000000 in
theorem sgHead_any (h : Hd) (hw : h.Wide) {A : Option Addr} {c : Nat} {l : List UInt8} {w : World} (hr : Rd w w.heap.size (.slice A l.length c) (cellsB l)) (hl : l.length ≤ 100000) :
    Calls Try.prog 19 #[hdV h, .slice A l.length c] w fun e w' => e = .returned (.tuple #[sgV (if hdE h l = 0 then sgHd h l else Sg.none), .int .i64 ((hdE h l : Nat) : Int)]) ∧ Below w.heap.size w w' := by
  have st := SgStart.of h w
  obtain ⟨X, hX⟩ : ∃ X, X = (w.alloc (.cells (hdC h).toArray 26)).alloc (.cells (sgC Sg.none).toArray 34) := ⟨_, rfl⟩
  rw [← hX] at st
  have hat : HdAt X w.heap.size h := st.head
  have c1 := hdC_proto hat
  unfold HdAt at hat
  have hi := info_hdA hw
  have hXb := Lib.hid st.below
  have hrX := (hr.below st.below).more st.below.size
  have hT := sgTcp_any h hw hrX hl
  have hU := sgUdp_any h hw hrX hl
  have hz := st.zero
  have hbu := st.build
  have hS := Lib.hid st.store
  clear hr hrX hw
  rw [hdV] at hT hU ⊢
  by_cases h6 : h.proto = 6
  · have hE : hdE h l = tcpE h l := by unfold hdE; rw [if_pos h6]
    have hH : sgHd h l = tcpHd l := by unfold sgHd tcpHd; rw [if_pos h6]
    rw [hE, hH]
    have c1' : X.cell? ⟨w.heap.size, 1, none⟩ = some (.int .u8 6) := by rw [c1, h6]; rfl
    clear hE hH hU c1 h6
    generalize (if tcpE h l = 0 then tcpHd l else Sg.none) = Y at *
    generalize tcpE h l = E at *
    generalize l.length = m at *
    generalize hZ : sgC Sg.none = Z at *
    unfold sgV at hT hS ⊢
    generalize hYC : sgC Y = D at *
    have hDl : D.length = 6 := by rw [← hYC]; rfl
    replace hS := Lib.hid (hS.out Y)
    rw [hYC] at hS
    have HYC := Lib.hid hYC
    have HT := Lib.hid hT
    generalize (hdC h).toArray = C at *
    clear hT hYC hZ st hl
    subst hX
    go_enter Try.func19, Try.ntmps19
    go_wp2_with (first
      | (with_reducible refine wpList_alloc_zero (o := ⟨some 4, .alloc 34, _, _, _, _⟩) rfl 34 rfl Z.toArray hz ?_)
      | ((with_reducible refine wpList_load_row (o := ⟨some 10, .load 26 (.tmp 2), _, _, _, _⟩) rfl 26 (.tmp 2) rfl w.heap.size ?_ 26 C (0, 0) _ hat Try.underlying26 rfl hi ?_); exact rfl)
      | (go_at_call 30; refine HT.out.mono ?_; rintro _ w2 ⟨rfl, hb2⟩; obtain ⟨w3, hst, _, hat3, hbel⟩ := hS.out _ hb2; have HR := Lib.hid (And.intro hat3 hbel); clear hat3 hbel hb2))
    exact bodyPost_ret (ret_sg (p := 4) (q := 5) (by kernel_rfl) rfl HR.out.1 rfl) rfl ⟨by rw [← HYC.out]; rfl, HR.out.2⟩
  · have n6 := u8_ne h6
    by_cases h17 : h.proto = 17
    · have hE : hdE h l = udpE h l := by unfold hdE; rw [if_neg h6, if_pos h17]
      have hH : sgHd h l = udpHd l := by unfold sgHd udpHd; rw [if_neg h6]
      rw [hE, hH]
      have c1' : X.cell? ⟨w.heap.size, 1, none⟩ = some (.int .u8 17) := by rw [c1, h17]; rfl
      clear hE hH hT c1 h6 h17 n6
      generalize (if udpE h l = 0 then udpHd l else Sg.none) = Y at *
      generalize udpE h l = E at *
      generalize l.length = m at *
      generalize hZ : sgC Sg.none = Z at *
      unfold sgV at hU hS ⊢
      generalize hYC : sgC Y = D at *
      have hDl : D.length = 6 := by rw [← hYC]; rfl
      replace hS := Lib.hid (hS.out Y)
      rw [hYC] at hS
      have HYC := Lib.hid hYC
      have HT := Lib.hid hU
      generalize (hdC h).toArray = C at *
      clear hU hYC hZ st hl
      subst hX
      go_enter Try.func19, Try.ntmps19
      go_wp2_with (first
        | (with_reducible refine wpList_alloc_zero (o := ⟨some 4, .alloc 34, _, _, _, _⟩) rfl 34 rfl Z.toArray hz ?_)
        | ((with_reducible refine wpList_load_row (o := ⟨some 17, .load 26 (.tmp 2), _, _, _, _⟩) rfl 26 (.tmp 2) rfl w.heap.size ?_ 26 C (0, 0) _ hat Try.underlying26 rfl hi ?_); exact rfl)
        | (go_at_call 31; refine HT.out.mono ?_; rintro _ w2 ⟨rfl, hb2⟩; obtain ⟨w3, hst, _, hat3, hbel⟩ := hS.out _ hb2; have HR := Lib.hid (And.intro hat3 hbel); clear hat3 hbel hb2))
      exact bodyPost_ret (ret_sg (p := 4) (q := 5) (by kernel_rfl) rfl HR.out.1 rfl) rfl ⟨by rw [← HYC.out]; rfl, HR.out.2⟩
    · have n17 := u8_ne h17
      have hE : hdE h l = 6 := by unfold hdE; rw [if_neg h6, if_neg h17]
      rw [hE, if_neg (by decide)]
      have hS0 := hS.out Sg.none
      rw [st.none] at hS0
      have hZl := st.len
      generalize l.length = m at *
      generalize hZ : sgC Sg.none = Z at *
      have HZ := Lib.hid hZ
      obtain ⟨w3, hst, _, hat3, hbel⟩ := hS0 _ (Below.refl _ _)
      have HT := Lib.hid (And.intro hat3 hbel)
      have k6 : ((h.proto.toNat : Int) == 6) = false := n6
      have k17 : ((h.proto.toNat : Int) == 17) = false := n17
      generalize h.proto.toNat = p at *
      generalize (hdC h).toArray = C at *
      clear hat3 hbel hS hS0 hT hU hE hZ st hl h6 h17 n6 n17
      subst hX
      go_enter Try.func19, Try.ntmps19
      go_wp2_with (first
        | (with_reducible refine wpList_alloc_zero (o := ⟨some 4, .alloc 34, _, _, _, _⟩) rfl 34 rfl Z.toArray hz ?_))
      exact bodyPost_ret (ret_sg (p := 4) (q := 5) (by kernel_rfl) rfl HT.out.1 rfl) rfl ⟨by rw [← HZ.out]; rfl, HT.out.2⟩
set_option maxRecDepth 100000 in
set_option maxHeartbeats 1000000 in
theorem sgRead_any (h : Hd) (hw : h.Wide) {A : Option Addr} {c : Nat} {l : List UInt8} {w : World} (hr : Rd w w.heap.size (.slice A l.length c) (cellsB l)) (hl : l.length ≤ 100000) :
    Calls Try.prog 11 #[hdV h, .slice A l.length c] w fun e w' => e = .returned (.tuple #[sgV (sgRead h l), .int .i64 ((sgErr h l : Nat) : Int)]) ∧ Below w.heap.size w w' := by
  have st := SgStart.of h w
  obtain ⟨X, hX⟩ : ∃ X, X = (w.alloc (.cells (hdC h).toArray 26)).alloc (.cells (sgC Sg.none).toArray 34) := ⟨_, rfl⟩
  rw [← hX] at st
  have hat : HdAt X w.heap.size h := st.head
  unfold HdAt at hat
  have hi := info_hdA hw
  have hXb := Lib.hid st.below
  have hXs := Lib.hid st.size
  have hrX := (hr.below st.below).more st.below.size
  have hH := sgHead_any h hw hrX hl
  have hz := st.zero
  have hbu := st.build
  have hS := Lib.hid st.store
  have hZl := st.len
  clear hr hrX hw
  rw [hdV] at hH ⊢
  have hsrc : (sgHd h l).src = num2 l 0 ∧ (sgHd h l).dst = num2 l 2 := by unfold sgHd; split <;> exact ⟨rfl, rfl⟩
  have hE := sgErr_parts h l
  obtain ⟨y, hy⟩ : ∃ y, y = if hdE h l = 0 then sgHd h l else Sg.none := ⟨_, rfl⟩
  rw [← hy] at hH
  have hP : Hid (∀ W, Calls Try.prog 20 #[sgV y] W fun e w' => e = .returned (.bool (y.src != 0 && y.dst != 0)) ∧ Below W.heap.size W w') := Lib.hid fun W => sgPorted_any y W
  -- The head is laid into a block of its own.
  have hS2 : Hid (∀ W : World, ∃ W', (storeCells ⟨W.heap.size, 0, none⟩ (sgC y)).run Try.prog (W.alloc (.cells (sgC Sg.none).toArray 34)) = .ok () W' ∧ SgAt W' W.heap.size y ∧ Below W.heap.size W W') := Lib.hid fun W => by
    obtain ⟨W', _, hat, hgr, _, hsc⟩ := store_sg (w := W.alloc (.cells (sgC Sg.none).toArray 34)) (g := W.heap.size) (a := Sg.none) (b := y) (heap_alloc_last W _)
    exact ⟨W', hsc, hat, grown_below (up_alloc (Below.refl _ _) _) hgr (Nat.le_refl _)⟩
  have hyi := info_sg y
  by_cases h0 : hdE h l = 0
  · rw [if_pos h0] at hE hy
    rw [h0] at hH
    by_cases hp : num2 l 0 = 0 ∨ num2 l 2 = 0
    · have hb : (y.src != 0 && y.dst != 0) = false := by
        rw [hy, hsrc.1, hsrc.2]
        rcases hp with h | h <;> simp [h]
      have hE4 : sgErr h l = 4 := by rw [hE]; unfold sgPorts; rw [if_pos hp]
      have hR : sgRead h l = Sg.none := by unfold sgRead; rw [hE4]; rfl
      rw [hb] at hP
      rw [hE4, hR]
      have hS0 := hS.out Sg.none
      clear hE4 hR hb hE hy hsrc h0 hp hS
      unfold sgV at *
      replace hS0 := Lib.hid hS0
      have hyr : Hid (∀ W, SgAt W W.heap.size y → True) := Lib.hid fun _ _ => trivial
      generalize hZ : sgC Sg.none = Z at *
      have HZ := Lib.hid hZ
      generalize hYC : sgC y = D at *
      have hDl : D.length = 6 := by rw [← hYC]; rfl
      have hAt : Hid (∀ W g, SgAt W g y → W.heap[g]? = some (.cells D.toArray 34 (0, 0)) ∧ W.rangeAt g 0 D) := Lib.hid fun W g h => by
        unfold SgAt at h
        rw [hYC] at h
        exact ⟨h, rangeAt_block h fun j u hu => by rw [Nat.zero_add]; exact hu⟩
      generalize (hdC h).toArray = C at *
      generalize l.length = m at *
      clear st hZ hYC hl hyr
      subst hX
      go_enter Try.func11, Try.ntmps11
      go_wp2_with (first
        | (with_reducible refine wpList_alloc_zero (o := ⟨some 4, .alloc 34, _, _, _, _⟩) rfl 34 rfl Z.toArray hz ?_)
        | ((with_reducible refine wpList_load_row (o := ⟨some 9, .load 26 (.tmp 2), _, _, _, _⟩) rfl 26 (.tmp 2) rfl w.heap.size ?_ 26 C (0, 0) _ hat Try.underlying26 rfl hi ?_); exact rfl)
        | (go_at_call 19; refine hH.mono ?_; rintro _ w1 ⟨rfl, hb1⟩; clear hH; obtain ⟨w2, hst2, hat2, hb2⟩ := hS2.out w1; have HB2 := Lib.hid (up hb1 hb2); have hb2s := Lib.hid hb1; obtain ⟨_, hrg⟩ := hAt.out _ _ hat2; clear hb1 hb2 hat2)
        | (with_reducible refine wpList_alloc_zero (o := ⟨some 6, .alloc 34, _, _, _, _⟩) rfl 34 rfl Z.toArray hz ?_)
        | ((with_reducible refine wpList_load_mid_g (op := ⟨some 17, .load 34 (.tmp 6), _, _, _, _⟩) (by kernel_rfl) 34 (.tmp 6) rfl w1.heap.size 0 ?_ D _ hrg Try.underlying34 rfl hyi ?_); exact rfl)
        | (go_at_call 20; refine (hP.out _).mono ?_; rintro _ w4 ⟨rfl, hb4⟩; obtain ⟨w3, hst, _, hat3, hbel⟩ := hS0.out _ (up HB2.out hb4); have HR := Lib.hid (And.intro hat3 hbel); clear hat3 hbel hb4))
      exact bodyPost_ret (ret_sg (p := 4) (q := 5) (by kernel_rfl) rfl HR.out.1 rfl) rfl ⟨by rw [← HZ.out]; rfl, HR.out.2⟩
    · have hb : (y.src != 0 && y.dst != 0) = true := by
        rw [hy, hsrc.1, hsrc.2]
        simp
        omega
      have hE0 : sgErr h l = 0 := by rw [hE]; unfold sgPorts; rw [if_neg hp]
      have hR : sgRead h l = y := by unfold sgRead; rw [if_pos hE0, hy]
      rw [hb] at hP
      rw [hE0, hR]
      have hS0 := hS.out y
      clear hE0 hR hb hE hy hsrc h0 hp hS
      unfold sgV at *
      replace hS0 := Lib.hid hS0
      generalize hZ : sgC Sg.none = Z at *
      have HZ := Lib.hid hZ
      generalize hYC : sgC y = D at *
      have hDl : D.length = 6 := by rw [← hYC]; rfl
      have HD := Lib.hid hYC
      have hAt : Hid (∀ W g, SgAt W g y → W.heap[g]? = some (.cells D.toArray 34 (0, 0)) ∧ W.rangeAt g 0 D) := Lib.hid fun W g h => by
        unfold SgAt at h
        rw [hYC] at h
        exact ⟨h, rangeAt_block h fun j u hu => by rw [Nat.zero_add]; exact hu⟩
      generalize (hdC h).toArray = C at *
      generalize l.length = m at *
      have hyA : (Try.prog.info? 34).map (·.size) = some D.toArray.size := by rw [List.size_toArray]; exact hyi
      clear st hZ hYC hl hZl
      subst hX
      go_enter Try.func11, Try.ntmps11
      go_wp2_with (first
        | (with_reducible refine wpList_alloc_zero (o := ⟨some 4, .alloc 34, _, _, _, _⟩) rfl 34 rfl Z.toArray hz ?_)
        | ((with_reducible refine wpList_load_row (o := ⟨some 9, .load 26 (.tmp 2), _, _, _, _⟩) rfl 26 (.tmp 2) rfl w.heap.size ?_ 26 C (0, 0) _ hat Try.underlying26 rfl hi ?_); exact rfl)
        | (go_at_call 19; refine hH.mono ?_; rintro _ w1 ⟨rfl, hb1⟩; clear hH; obtain ⟨w2, hst2, hat2, hb2⟩ := hS2.out w1; have HB2 := Lib.hid (up hb1 hb2); have hb2s := Lib.hid hb1; obtain ⟨_, hrg⟩ := hAt.out _ _ hat2; have HA2 := Lib.hid hat2; have HL2 := Lib.hid (show w1.heap.size < w2.heap.size from (Array.getElem?_eq_some_iff.1 hat2).1); clear hb1 hb2 hat2)
        | (with_reducible refine wpList_alloc_zero (o := ⟨some 6, .alloc 34, _, _, _, _⟩) rfl 34 rfl Z.toArray hz ?_)
        | ((with_reducible refine wpList_load_mid_g (op := ⟨some 17, .load 34 (.tmp 6), _, _, _, _⟩) (by kernel_rfl) 34 (.tmp 6) rfl w1.heap.size 0 ?_ D _ hrg Try.underlying34 rfl hyi ?_); exact rfl)
        | (go_at_call 20; refine (hP.out _).mono ?_; rintro _ w4 ⟨rfl, hb4⟩; obtain ⟨w3, hst, _, hat3, hbel⟩ := hS0.out _ (up HB2.out hb4); have HR := Lib.hid (And.intro hat3 hbel); have hat4 := (hAt.out _ _ (HA2.out.below hb4 HL2.out)).1; clear hat3 hbel hb4)
        | ((with_reducible refine wpList_load_row (o := ⟨some 25, .load 34 (.tmp 6), _, _, _, _⟩) rfl 34 (.tmp 6) rfl w1.heap.size ?_ 34 D.toArray (0, 0) _ hat4 Try.underlying34 rfl hyA ?_); exact rfl))
      exact bodyPost_ret (ret_sg (p := 4) (q := 5) (by kernel_rfl) rfl HR.out.1 rfl) rfl ⟨by rw [← HD.out]; rfl, HR.out.2⟩
  · rw [if_neg h0] at hE hy
    have hR : sgRead h l = Sg.none := by unfold sgRead; rw [if_neg (by omega)]
    rw [hE, hR]
    have k1 := beq_zero h0
    have k2 := bne_zero h0
    have hS0 := hS.out Sg.none
    subst hy
    clear hE hR hsrc h0 hS hP
    unfold sgV at *
    replace hS0 := Lib.hid hS0
    generalize hdE h l = E at *
    generalize hZ : sgC Sg.none = Z at *
    have HZ := Lib.hid hZ
    generalize (hdC h).toArray = C at *
    generalize l.length = m at *
    clear st hZ hl
    subst hX
    go_enter Try.func11, Try.ntmps11
    go_wp2_with (first
      | (with_reducible refine wpList_alloc_zero (o := ⟨some 4, .alloc 34, _, _, _, _⟩) rfl 34 rfl Z.toArray hz ?_)
      | ((with_reducible refine wpList_load_row (o := ⟨some 9, .load 26 (.tmp 2), _, _, _, _⟩) rfl 26 (.tmp 2) rfl w.heap.size ?_ 26 C (0, 0) _ hat Try.underlying26 rfl hi ?_); exact rfl)
      | (go_at_call 19; refine hH.mono ?_; rintro _ w1 ⟨rfl, hb1⟩; clear hH; obtain ⟨w2, hst2, hat2, hb2⟩ := hS2.out w1; have HB2 := Lib.hid (up hb1 hb2); have hb2s := Lib.hid hb1; obtain ⟨w3, hst, _, hat3, hbel⟩ := hS0.out _ HB2.out; have HR := Lib.hid (And.intro hat3 hbel); clear hat3 hbel; clear hb1 hb2 hat2)
      | (with_reducible refine wpList_alloc_zero (o := ⟨some 6, .alloc 34, _, _, _, _⟩) rfl 34 rfl Z.toArray hz ?_))
    exact bodyPost_ret (ret_sg (p := 4) (q := 5) (by kernel_rfl) rfl HR.out.1 rfl) rfl ⟨by rw [← HZ.out]; rfl, HR.out.2⟩
end Go.Proofs.Ytalchhfpdojjjaa
