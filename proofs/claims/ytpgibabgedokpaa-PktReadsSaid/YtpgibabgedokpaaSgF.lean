/-
  Write's ways: ports, fits, writeTCP.
-/
import Derived.Test.YtpgibabgedokpaaSgB
import Derived.Test.YtpgibabgedokpaaAdEq
namespace Go.Proofs.Ytpgibabgedokpaa
open Go.RowKit
/-- num.Put, by what its bytes are. -/
theorem put_of (n : Nat) (W : World) (v : Value) (l : List UInt8) (k : Nat) (kk : Int) (hk : kk = (k : Int)) (hl : l.length ≤ 10000) (h1 : 1 ≤ k) (h2 : k ≤ 8) (hr : Rd W W.heap.size v (cellsB l)) :
    Calls Try.prog 36 #[v, .int .u64 (n : Int), .int .i64 kk] W fun e w' => ∃ A m c, e = .returned (.slice A m c) ∧ Mine w' W.heap.size 5 (.slice A m c) (cellsB (l ++ be k n)) ∧ Below W.heap.size W w' := by
  subst hk
  obtain ⟨A, c, rfl, _, _, hr⟩ := hr.bytes
  exact (put_yes A c l n k W W.heap.size hr (Nat.le_refl _) (by omega) h1 h2).mono fun e w' h => mine_of h
set_option maxRecDepth 100000 in
theorem sgPortsOf_any (s : Sg) (hs : s.src < 65536 ∧ s.dst < 65536) (w : World) : Calls Try.prog 53 #[sgV s] w fun e w' => ∃ A n c, e = .returned (.slice A n c) ∧ Rd w' w'.heap.size (.slice A n c) (cellsB (be 2 s.src ++ be 2 s.dst)) ∧ Below w.heap.size w w' := by
  have hat : SgAt (w.alloc (.cells (sgC s).toArray 31)) w.heap.size s := heap_alloc_last w (.cells (sgC s).toArray 31)
  have hF : Hid (∀ W, Below (w.alloc (.cells (sgC s).toArray 31)).heap.size (w.alloc (.cells (sgC s).toArray 31)) W → W.cell? ⟨w.heap.size, 0, none⟩ = some (.int .u16 (s.src : Int)) ∧ W.cell? ⟨w.heap.size, 1, none⟩ = some (.int .u16 (s.dst : Int))) := Lib.hid fun W hW => by
    obtain ⟨c0, c1, _⟩ := sgC_cell (hat.below hW (by simp))
    exact ⟨c0, c1⟩
  have hD : Hid (∀ W, Below (w.alloc (.cells (sgC s).toArray 31)).heap.size (w.alloc (.cells (sgC s).toArray 31)) W → Below w.heap.size w W) := Lib.hid fun W hW => up (up_alloc (Below.refl _ _) _) hW
  have HP := Lib.hid put_of
  obtain ⟨a, ha⟩ : ∃ a, a = s.src := ⟨_, rfl⟩
  obtain ⟨b, hb⟩ : ∃ b, b = s.dst := ⟨_, rfl⟩
  have ka : IntKind.u64.wrap (a : Int) = (a : Int) := IntWalk.u64_in _ (by omega)
  have kb : IntKind.u64.wrap (b : Int) = (b : Int) := IntWalk.u64_in _ (by omega)
  rw [← ha, ← hb] at hF ⊢
  unfold sgV
  generalize (sgC s).toArray = C at *
  clear ha hb hs hat
  go_enter Try.func53, Try.ntmps53
  go_wp2_with fail
  refine wp_region_held_drew (S := fun w' => w'.cell? ⟨w.heap.size, 0, none⟩ = some (.int .u16 (a : Int)) ∧ w'.cell? ⟨w.heap.size, 1, none⟩ = some (.int .u16 (b : Int))) (by kernel_rfl) (hF.out _ (drew_self _)) (fun hHeld => ?_)
  refine th 0 ?_ (hy := by (intro wy hSw; obtain ⟨s1, s2⟩ := hSw; go_simp <;> with_reducible rfl))
  go_frame
  refine th 1 ?_ (hy := by (intro wy hSw; obtain ⟨s1, s2⟩ := hSw; go_simp <;> with_reducible rfl))
  go_frame
  refine th 2 (v := .int .u64 (a : Int)) ?_ (hy := fun wy hSw => by (obtain ⟨s1, s2⟩ := hSw; go_simp <;> with_reducible rfl))
  go_frame
  refine th 4 ?_ (hy := by (intro wy hSw; obtain ⟨s1, s2⟩ := hSw; go_simp <;> with_reducible rfl))
  go_frame
  refine th 5 ?_ (hy := by (intro wy hSw; obtain ⟨s1, s2⟩ := hSw; go_simp <;> with_reducible rfl))
  go_frame
  refine th 6 (v := .int .u64 (b : Int)) ?_ (hy := fun wy hSw => by (obtain ⟨s1, s2⟩ := hSw; go_simp <;> with_reducible rfl))
  go_frame
  refine wpAnyH_ready (rs := [3]) (by kernel_rfl) (by simp) (AllReadyH.cons (o := ⟨some 6, .call { callee := .value (.func 36), args := #[.const (.slice none 0 0), .tmp 5, .const (.int .i64 2)], argTypes := #[22, 59, 3] }, _, _, _, none⟩) rfl (fun K hK => ?_) AllReadyH.nil)
  rw [if_pos (by kernel_rfl)]
  go_simp
  refine (HP.out a _ _ [] 2 2 rfl (by simp) (by omega) (by omega) (Rd.nil _ _)).mono ?_
  rintro _ w4 ⟨A4, n4, c4, rfl, hv4, hb4⟩
  have HB4 := Lib.hid (drew_start hb4)
  have HR4 := Lib.hid hv4.rd
  clear hv4 hb4
  dsimp only
  refine hK.out _ _ (hF.out _ HB4.out) (fun _ => ?_)
  clear hK K
  try go_frame
  refine wpAnyH_ready (rs := [7]) (by kernel_rfl) (by simp) (AllReadyH.cons (o := ⟨some 10, .call { callee := .value (.func 36), args := #[.tmp 6, .tmp 9, .const (.int .i64 2)], argTypes := #[22, 59, 3] }, _, _, _, none⟩) rfl (fun K hK => ?_) AllReadyH.nil)
  rw [if_pos (by kernel_rfl)]
  go_simp
  refine (HP.out b _ _ ([] ++ be 2 a) 2 2 rfl (by simp [be_length]) (by omega) (by omega) HR4.out).mono ?_
  rintro _ w5 ⟨A5, n5, c5, rfl, hv5, hb5⟩
  have HB5 := Lib.hid (up HB4.out hb5)
  have HR5 := Lib.hid hv5.rd
  clear hv5 hb5
  dsimp only
  refine hK.out _ _ (hF.out _ HB5.out) (fun _ => ?_)
  clear hK K
  try go_frame
  refine th 8 ?_ (hy := by (intro wy hSw; obtain ⟨s1, s2⟩ := hSw; go_simp <;> with_reducible rfl))
  go_frame
  refine wpAnyH_done (by kernel_rfl) ?_ _
  go_wp2_with fail
  go_ret
  exact ⟨_, _, _, rfl, HR5.out, hD.out _ HB5.out⟩
theorem own_good_fit (x y : Bool) : (x == y) = decide (x = y) := by cases x <;> cases y <;> rfl
set_option maxRecDepth 100000 in
theorem sgFits_any (h : Hd) (hw : h.Wide) (a : Ad) (ha : a.Wide) (w : World) : Calls Try.prog 32 #[hdV h, adV a] w fun e w' => e = .returned (.bool (a.six == h.six && a.good)) ∧ Below w.heap.size w w' := by
  have hat : HdAt (w.alloc (.cells (hdC h).toArray 28)) w.heap.size h := heap_alloc_last w (.cells (hdC h).toArray 28)
  obtain ⟨X, hX⟩ : ∃ X, X = (w.alloc (.cells (hdC h).toArray 28)).alloc (.cells (adC a).toArray 26) := ⟨_, rfl⟩
  have hat2 : X.heap[w.heap.size + 1]? = some (.cells (adC a).toArray 26 (0, 0)) := by
    rw [hX]
    have := heap_alloc_last (w.alloc (.cells (hdC h).toArray 28)) (.cells (adC a).toArray 26)
    rwa [show (w.alloc (.cells (hdC h).toArray 28)).heap.size = w.heap.size + 1 by simp] at this
  have hat1 : HdAt X w.heap.size h := by rw [hX]; exact (heap_alloc_old _ _ (by simp)).trans hat
  have hb := Lib.hid (show Below w.heap.size w X by rw [hX]; exact up_alloc (up_alloc (Below.refl _ _) _) _)
  have c0 := hdC_six hat1
  have d0 := adC_six hat2
  have hrg : X.rangeAt (w.heap.size + 1) 0 (adC a) := rangeAt_block hat2 fun j u hu => by rw [Nat.zero_add]; exact hu
  have hi := info_ad ha
  have hG := Lib.hid (adGood_any a X ha)
  unfold hdV
  rw [adV] at hG ⊢
  generalize (hdC h).toArray = C at *
  generalize a.good = g at *
  clear hat hat1 hat2
  by_cases hx : a.six = h.six
  · have e1 : (a.six == h.six && g) = g := by rw [hx]; simp
    rw [e1]
    rw [hx] at d0
    clear e1
    generalize hA : adC a = D at *
    generalize h.six = z at *
    clear hx hA
    subst hX
    have e2 : (z == z) = true := by simp
    cases z with
    | true =>
      go_enter Try.func32, Try.ntmps32
      go_wp2_with (first
        | ((with_reducible refine wpList_load_mid_g (op := ⟨some 11, .load 26 (.tmp 3), _, _, _, _⟩) (by kernel_rfl) 26 (.tmp 3) rfl (w.heap.size + 1) 0 ?_ D _ hrg Try.underlying26 rfl hi ?_); exact rfl)
        | (go_at_call 52; refine hG.out.mono ?_; rintro _ w1 ⟨rfl, hb1⟩))
      go_ret
      exact ⟨rfl, up hb.out hb1⟩
    | false =>
      go_enter Try.func32, Try.ntmps32
      go_wp2_with (first
        | ((with_reducible refine wpList_load_mid_g (op := ⟨some 11, .load 26 (.tmp 3), _, _, _, _⟩) (by kernel_rfl) 26 (.tmp 3) rfl (w.heap.size + 1) 0 ?_ D _ hrg Try.underlying26 rfl hi ?_); exact rfl)
        | (go_at_call 52; refine hG.out.mono ?_; rintro _ w1 ⟨rfl, hb1⟩))
      go_ret
      exact ⟨rfl, up hb.out hb1⟩
  · have e1 : (a.six == h.six && g) = false := by
      rw [own_good_fit, decide_eq_false hx]; rfl
    have e2 : a.six = !h.six := by cases h1 : a.six <;> cases h2 : h.six <;> simp_all
    rw [e1]
    rw [e2] at d0
    generalize hA : adC a = D at *
    generalize h.six = z at *
    clear hA e1 hx e2
    subst hX
    cases z with
    | true =>
      go_enter Try.func32, Try.ntmps32
      go_wp2_with fail
      go_ret
      exact ⟨rfl, hb.out⟩
    | false =>
      go_enter Try.func32, Try.ntmps32
      go_wp2_with fail
      go_ret
      exact ⟨rfl, hb.out⟩
theorem tot_zeros (l m : List UInt8) (hl : l.length % 2 = 0) : tot (l ++ (be 2 0 ++ m)) = tot (l ++ m) := by
  rw [tot_append _ _ hl, tot_append _ _ hl, tot_append _ _ (by rw [be_length]), tot_be2 0 (by omega)]
  omega
/-- What lies ahead of the sum, and behind it. -/
def sgFirst (s : Sg) : List UInt8 := (be 2 s.src ++ be 2 s.dst) ++ ([0, 0, 0, 0, 0, 0, 0, 0] ++ [80, s.flags, 0, 0])
theorem sgOwn_tcp {h : Hd} (hw : h.Wide) (h6 : h.proto = 6) (s : Sg) (data : List UInt8) : sgSum h s data = sumOf (sgPseudo h (20 + data.length) ++ (sgFirst s ++ ([0, 0] ++ data))) ∧ sgBytes h s data = (sgFirst s ++ be 2 (sgSum h s data)) ++ ([0, 0] ++ data) := by
  have hb : sgBare h s = false := by unfold sgBare; rw [h6]; rfl
  have hr : ∀ n, sgRaw h s data n = sgFirst s ++ (be 2 n ++ ([0, 0] ++ data)) := fun n => by
    unfold sgRaw sgFirst
    rw [if_pos h6]
    simp
  have hp := (sgPseudo_length hw (20 + data.length)).1
  constructor
  · unfold sgSum
    rw [hb, if_neg (by decide), if_neg (by rw [h6]; intro h; exact absurd h.2 (by decide))]
    unfold sgOwn
    rw [sgRaw_length, if_pos h6, hr 0]
    unfold sumOf
    have := tot_zeros (sgPseudo h (20 + data.length) ++ sgFirst s) ([0, 0] ++ data) (by rw [List.length_append]; simp [sgFirst, be_length]; omega)
    simp only [List.append_assoc] at this ⊢
    rw [this]
  · unfold sgBytes
    rw [hr]
    simp only [List.append_assoc]
/-- What writeTCP calls. -/
structure TcpFacts (h : Hd) (s : Sg) (data F P : List UInt8) (n m : Nat) (A : Option Addr) (c : Nat) (w X : World) (Z2 : Array Value) : Prop where
  ports : ∀ W, Calls Try.prog 53 #[sgV s] W fun e w' => ∃ A n c, e = .returned (.slice A n c) ∧ Rd w' w'.heap.size (.slice A n c) (cellsB (be 2 s.src ++ be 2 s.dst)) ∧ Below W.heap.size W w'
  first : ∀ W A1 n1 c1 A2 n2 c2 A3 n3 c3, Rd W W.heap.size (.slice A1 n1 c1) (cellsB (be 2 s.src ++ be 2 s.dst)) → Rd W W.heap.size (.slice A2 n2 c2) (cellsB [0, 0, 0, 0, 0, 0, 0, 0]) → Rd W W.heap.size (.slice A3 n3 c3) (cellsB [80, s.flags, 0, 0]) → Calls Try.prog 37 #[.slice (some ⟨W.heap.size, 0, none⟩) 3 3] (W.alloc (.cells #[.slice A1 n1 c1, .slice A2 n2 c2, .slice A3 n3 c3] 22)) fun e w' => ∃ A n c, e = .returned (.slice A n c) ∧ Rd w' w'.heap.size (.slice A n c) (cellsB F) ∧ Below W.heap.size W w'
  last : ∀ W, Below w.heap.size w W → Calls Try.prog 37 #[.slice (some ⟨W.heap.size + 1, 0, none⟩) 2 2] ((W.alloc (.cells Z2 5)).alloc (.cells #[.slice (some ⟨W.heap.size, 0, none⟩) 2 2, .slice A m c] 22)) fun e w' => ∃ A n c, e = .returned (.slice A n c) ∧ Rd w' w'.heap.size (.slice A n c) (cellsB ([0, 0] ++ data)) ∧ Below W.heap.size W w'
  pseudo : ∀ W, Calls Try.prog 54 #[.agg (hdC h).toArray, .int .i64 ((20 + m : Nat) : Int)] W fun e w' => ∃ A n c, e = .returned (.slice A n c) ∧ Rd w' w'.heap.size (.slice A n c) (cellsB P) ∧ Below W.heap.size W w'
  sum : ∀ W A1 n1 c1 A2 n2 c2 A3 n3 c3, Rd W W.heap.size (.slice A1 n1 c1) (cellsB P) → Rd W W.heap.size (.slice A2 n2 c2) (cellsB F) → Rd W W.heap.size (.slice A3 n3 c3) (cellsB ([0, 0] ++ data)) → Calls Try.prog 40 #[.slice (some ⟨W.heap.size, 0, none⟩) 3 3] (W.alloc (.cells #[.slice A1 n1 c1, .slice A2 n2 c2, .slice A3 n3 c3] 22)) fun e w' => e = .returned (.int .u16 (n : Int)) ∧ Below W.heap.size W w'
  put : ∀ W A1 n1 c1, Rd W W.heap.size (.slice A1 n1 c1) (cellsB F) → Calls Try.prog 36 #[.slice A1 n1 c1, .int .u64 (n : Int), .int .i64 2] W fun e w' => ∃ A n2 c, e = .returned (.slice A n2 c) ∧ Rd w' w'.heap.size (.slice A n2 c) (cellsB (F ++ be 2 n)) ∧ Below W.heap.size W w'
  all : ∀ W A1 n1 c1 A2 n2 c2, Rd W W.heap.size (.slice A1 n1 c1) (cellsB (F ++ be 2 n)) → Rd W W.heap.size (.slice A2 n2 c2) (cellsB ([0, 0] ++ data)) → Calls Try.prog 37 #[.slice (some ⟨W.heap.size, 0, none⟩) 2 2] (W.alloc (.cells #[.slice A1 n1 c1, .slice A2 n2 c2] 22)) fun e w' => ∃ v, e = .returned v ∧ Mine w' W.heap.size 5 v (cellsB (sgBytes h s data)) ∧ Below W.heap.size W w'
theorem RdAll.lit3 (w : World) (e : TypeId) (a b c : Value) (l m n : List UInt8) (hr : Rd w w.heap.size a (cellsB l)) (hr2 : Rd w w.heap.size b (cellsB m)) (hr3 : Rd w w.heap.size c (cellsB n)) : RdAll (w.alloc (.cells #[a, b, c] e)) (w.heap.size + 1) (.slice (some ⟨w.heap.size, 0, none⟩) 3 3) [l, m, n] := by
  refine RdAll.lit w e [a, b, c] [l, m, n] rfl (by unfold maxLen; simp) fun k u x hu hm => ?_
  match k, hu, hm with
  | 0, hu, hm => simp at hu hm; subst hu hm; exact hr
  | 1, hu, hm => simp at hu hm; subst hu hm; exact hr2
  | 2, hu, hm => simp at hu hm; subst hu hm; exact hr3
theorem tcpFacts (h : Hd) (hw : h.Wide) (h6 : h.proto = 6) (s : Sg) (hs : s.src < 65536 ∧ s.dst < 65536) (data : List UInt8) (hd : data.length ≤ 1900) (A : Option Addr) (c : Nat) (w X : World) (hr : Rd w w.heap.size (.slice A data.length c) (cellsB data)) : TcpFacts h s data (sgFirst s) (sgPseudo h (20 + data.length)) (sgSum h s data) data.length A c w X (cellsB [0, 0]).toArray := by
  obtain ⟨e1, e2⟩ := sgOwn_tcp hw h6 s data
  have lF : (sgFirst s).length = 16 := by simp [sgFirst, be_length]
  have lP := (sgPseudo_length hw (20 + data.length)).2.1
  refine ⟨fun W => sgPortsOf_any s hs W, ?_, ?_, ?_, ?_, ?_, ?_⟩
  · intro W A1 n1 c1 A2 n2 c2 A3 n3 c3 r1 r2 r3
    have := bytes_three _ _ _ _ _ _ 22 r1 r2 r3 (by simp [be_length])
    exact this.mono fun e w' h => rd_of h
  · intro W hW
    have e1 := rd_lit W 5 [0, 0] (by simp)
    have hs : (W.alloc (.cells (cellsB [0, 0]).toArray 5)).heap.size = W.heap.size + 1 := by simp
    have hb := up_alloc hW (.cells (cellsB [0, 0]).toArray 5)
    have := bytes_two (.slice (some ⟨W.heap.size, 0, none⟩) 2 2) (.slice A data.length c) [0, 0] data 22 (W.alloc (.cells (cellsB [0, 0]).toArray 5)) _ (by rw [hs]; exact e1) ((hr.below hb).more hb.size) (Nat.le_refl _) (by simp; omega)
    rw [hs] at this
    refine this.mono fun e w' h => ?_
    obtain ⟨A, n, c, e1, e2, e3⟩ := rd_of h
    exact ⟨A, n, c, e1, e2, (up_alloc (Below.refl W.heap.size W) _).trans (e3.mono (by omega))⟩
  · intro W
    exact (sgPseudo_any h hw _ _ (IntWalk.u64_in _ (by omega)) W).mono fun e w' h => rd_of h
  · intro W A1 n1 c1 A2 n2 c2 A3 n3 c3 r1 r2 r3
    have := inSum_any (RdAll.lit3 W 22 _ _ _ _ _ _ r1 r2 r3) (by simp [lF]; omega)
    rw [e1]
    refine this.mono fun e w' h => ?_
    obtain ⟨rfl, rfl⟩ := h
    refine ⟨by simp, up_alloc (Below.refl _ _) _⟩
  · intro W A1 n1 c1 r1
    exact (put_of (sgSum h s data) W _ _ 2 2 rfl (by omega) (by omega) (by omega) r1).mono fun e w' ⟨A, m, c, e1, e2, e3⟩ => ⟨A, m, c, e1, e2.rd, e3⟩
  · intro W A1 n1 c1 A2 n2 c2 r1 r2
    have := bytes_two _ _ _ _ 22 W _ r1 r2 (Nat.le_refl _) (by simp [be_length, lF]; omega)
    rw [← e2] at this
    exact this
theorem make_zeros (n : Nat) (hn : n ≤ 1000) (W : World) : (Instr.makeSlice 22 (.int .i64 (n : Int)) (.int .i64 (n : Int))).run Try.prog W = .ok (.slice (some ⟨W.heap.size, 0, none⟩) n n) (W.alloc (.cells (cellsB (List.replicate n 0)).toArray 5)) := by
  obtain ⟨i, hi, hz0, hz1, hz2⟩ := info_parts info_u8
  have := run_makeSlice (P := Try.prog) W 22 5 i _ Try.underlying22 hi hz0 .i64 .i64 (n : Int) (n : Int) (by omega) (by omega) (by rw [hz1]; omega) (by rw [hz2]; omega) (by omega)
  rw [this]
  have e : madeCells (Value.int IntKind.u8 0).cells (n * 1) = (cellsB (List.replicate n 0)).toArray := by
    apply Array.toList_inj.1
    rw [show (Value.int IntKind.u8 0).cells = #[Value.int IntKind.u8 0] from rfl, Nat.mul_one, toList_madeCells_one]
    simp [cellsB]
  rw [Nat.mul_one] at e
  simp [hz1, e]
set_option maxRecDepth 100000 in
set_option maxHeartbeats 2000000 in
theorem sgWriteTcp_any (h : Hd) (hw : h.Wide) (h6 : h.proto = 6) (s : Sg) (hs : s.src < 65536 ∧ s.dst < 65536) (data : List UInt8) (hd : data.length ≤ 1900) (A : Option Addr) (c : Nat) (w : World) (hr : Rd w w.heap.size (.slice A data.length c) (cellsB data)) :
    Calls Try.prog 33 #[hdV h, sgV s, .slice A data.length c] w fun e w' => ∃ v, e = .returned v ∧ Mine w' w.heap.size 5 v (cellsB (sgBytes h s data)) ∧ Below w.heap.size w w' := by
  obtain ⟨X, hX⟩ : ∃ X, X = (w.alloc (.cells (hdC h).toArray 28)).alloc (.cells (sgC s).toArray 31) := ⟨_, rfl⟩
  have HH := tcpFacts h hw h6 s hs data hd A c w X hr
  have hXs : X.heap.size = w.heap.size + 1 + 1 := by rw [hX]; simp
  have hXb := Lib.hid (show Below w.heap.size w X by rw [hX]; exact up_alloc (up_alloc (Below.refl _ _) _) _)
  have hat1 : HdAt X w.heap.size h := by rw [hX]; exact (heap_alloc_old _ _ (by simp)).trans (heap_alloc_last w _)
  have hat2 : SgAt X (w.heap.size + 1) s := by
    rw [hX]
    have := heap_alloc_last (w.alloc (.cells (hdC h).toArray 28)) (.cells (sgC s).toArray 31)
    rwa [show (w.alloc (.cells (hdC h).toArray 28)).heap.size = w.heap.size + 1 by simp] at this
  have hF : Hid (∀ W, Below X.heap.size X W → W.rangeAt (w.heap.size + 1) 0 (sgC s) ∧ W.cell? ⟨w.heap.size + 1, 2, none⟩ = some (.int .u8 (s.flags.toNat : Int))) := Lib.hid fun W hW => by
    have h2 := hat2.below hW (by omega)
    exact ⟨rangeAt_block h2 fun j u hu => by rw [Nat.zero_add]; exact hu, (sgC_cell h2).2.2.1⟩
  have hAt : Hid (∀ W, Below X.heap.size X W → W.heap[w.heap.size]? = some (.cells (hdC h).toArray 28 (0, 0))) := Lib.hid fun W hW => hat1.below hW (by omega)
  have hm8 := Lib.hid (make_zeros 8 (by omega))
  have hm2 := Lib.hid (make_zeros 2 (by omega))
  have hi := info_hdA hw
  have hsi := info_sg s
  have HL : Hid (∀ W : World, Rd (W.alloc (.cells #[.int .u8 80, .int .u8 (s.flags.toNat : Int), .int .u8 0, .int .u8 0] 5)) (W.alloc (.cells #[.int .u8 80, .int .u8 (s.flags.toNat : Int), .int .u8 0, .int .u8 0] 5)).heap.size (.slice (some ⟨W.heap.size, 0, none⟩) 4 4) (cellsB [80, s.flags, 0, 0])) := Lib.hid fun W => by
    rw [show (W.alloc (.cells #[.int .u8 80, .int .u8 (s.flags.toNat : Int), .int .u8 0, .int .u8 0] 5)).heap.size = W.heap.size + 1 by simp]
    exact rd_lit W 5 [80, s.flags, 0, 0] (by simp)
  have HZ8 : Hid (∀ W : World, Rd (W.alloc (.cells (cellsB (List.replicate 8 0)).toArray 5)) (W.alloc (.cells (cellsB (List.replicate 8 0)).toArray 5)).heap.size (.slice (some ⟨W.heap.size, 0, none⟩) 8 8) (cellsB [0, 0, 0, 0, 0, 0, 0, 0])) := Lib.hid fun W => by
    rw [show (W.alloc (.cells (cellsB (List.replicate 8 0)).toArray 5)).heap.size = W.heap.size + 1 by simp]
    exact rd_lit W 5 [0, 0, 0, 0, 0, 0, 0, 0] (by simp)
  have hmZ : Hid (∀ W, (Instr.makeSlice 22 (.int .i64 2) (.int .i64 2)).run Try.prog W = .ok (.slice (some ⟨W.heap.size, 0, none⟩) 2 2) (W.alloc (.cells (cellsB [0, 0]).toArray 5))) := hm2
  have hm8' : Hid (∀ W, (Instr.makeSlice 22 (.int .i64 8) (.int .i64 8)).run Try.prog W = .ok (.slice (some ⟨W.heap.size, 0, none⟩) 8 8) (W.alloc (.cells (cellsB (List.replicate 8 0)).toArray 5))) := hm8
  clear hm8 hm2 hat1 hat2
  generalize (cellsB [0, 0]).toArray = Z2 at *
  generalize (cellsB (List.replicate 8 0)).toArray = Z8 at *
  have hsl := sgSum_le h s data
  obtain ⟨m, hm⟩ : ∃ m, m = data.length := ⟨_, rfl⟩
  rw [← hm] at HH hd ⊢
  generalize sgSum h s data = n at *
  have hwm : IntKind.i64.wrap (20 + (m : Int)) = ((20 + m : Nat) : Int) := by rw [IntWalk.i64_in _ (by omega)]; omega
  obtain ⟨k, hk⟩ : ∃ k, k = 20 + m := ⟨_, rfl⟩
  generalize sgPseudo h (20 + m) = PP at *
  have hps := HH.pseudo
  rw [← hk] at hwm hps
  have hwn : IntKind.u64.wrap (n : Int) = (n : Int) := IntWalk.u64_in _ (by omega)
  have H1 := Lib.hid HH.ports
  have H2 := Lib.hid HH.first
  have H3 := Lib.hid HH.last
  have H4 := Lib.hid hps
  have H5 := Lib.hid HH.sum
  have H6 := Lib.hid HH.put
  have H7 := Lib.hid HH.all
  generalize sgFirst s = F at *
  unfold hdV sgV
  unfold sgV at H1
  generalize hCC : (hdC h).toArray = C at *
  generalize hSC : sgC s = SC at *
  have hxd : Hid (Below X.heap.size X X.drew) := Lib.hid (Below.refl _ _).drew
  clear HH hps hs hsl hw h6 hr hm hk hCC hSC hXs
  go_enter Try.func33, Try.ntmps33
  go_wp2_with fail
  rw [← hX]
  clear hX
  refine wp_region_held_drew (S := fun w' => w'.rangeAt (w.heap.size + 1) 0 SC ∧ w'.cell? ⟨w.heap.size + 1, 2, none⟩ = some (.int .u8 (s.flags.toNat : Int))) (by kernel_rfl) (hF.out _ hxd.out) (fun hHeld => ?_)
  refine th 0 (v := .agg SC.toArray) ?_ (hy := fun wy hSw => by exact exec_load (t := 31) (x := .tmp 4) rfl (pv := .pointer (some ⟨w.heap.size + 1, 0, none⟩)) rfl (run_loadAt_mid wy (w.heap.size + 1) 0 31 SC _ hSw.1 Try.underlying31 rfl hsi))
  go_frame
  refine th 3 ?_ (hy := by (intro wy hSw; obtain ⟨s1, s2⟩ := hSw; go_simp <;> with_reducible rfl))
  go_frame
  refine th 4 ?_ (hy := by (intro wy hSw; obtain ⟨s1, s2⟩ := hSw; go_simp <;> with_reducible rfl))
  go_frame
  refine wpAnyH_ready (rs := [1, 2, 5]) (by kernel_rfl) (by simp) (AllReadyH.cons (o := ⟨some 11, .call { callee := .value (.func 53), args := #[.tmp 10], argTypes := #[31] }, _, _, _, none⟩) rfl (fun K hK => ?_) (AllReadyH.cons (o := ⟨some 12, .makeSlice 22 (.const (.int .i64 8)) (.const (.int .i64 8)), _, _, _, none⟩) rfl (fun K hK => ?_) (AllReadyH.cons (o := ⟨some 15, .buildSlice 22 4 #[(0, .const (.int .u8 80)), (1, .tmp 14), (2, .const (.int .u8 0)), (3, .const (.int .u8 0))], _, _, _, none⟩) rfl (fun K hK => ?_) AllReadyH.nil)))
  · rw [if_pos (by kernel_rfl)]
    go_simp
    refine (H1.out _).mono ?_
    rintro _ wr1 ⟨A1, n1, c1, rfl, hr1, hb⟩
    have HR1 := Lib.hid hr1
    have HBL := Lib.hid (up hxd.out hb)
    clear hb hr1
    dsimp only
    refine hK.out _ _ (hF.out _ HBL.out) (fun _ => ?_)
    clear hK K
    try go_frame
    refine wpAnyH_ready (rs := [2, 5]) (by kernel_rfl) (by simp) (AllReadyH.cons (o := ⟨some 12, .makeSlice 22 (.const (.int .i64 8)) (.const (.int .i64 8)), _, _, _, none⟩) rfl (fun K hK => ?_) (AllReadyH.cons (o := ⟨some 15, .buildSlice 22 4 #[(0, .const (.int .u8 80)), (1, .tmp 14), (2, .const (.int .u8 0)), (3, .const (.int .u8 0))], _, _, _, none⟩) rfl (fun K hK => ?_) AllReadyH.nil))
    · rw [if_pos (by kernel_rfl)]
      refine wp_run (.slice (some ⟨wr1.heap.size, 0, none⟩) 8 8) (wr1.alloc (.cells Z8 5)) (exec_makeSlice (t := 22) (x := .const (.int .i64 8)) (y := .const (.int .i64 8)) rfl (u := .int .i64 8) rfl (v := .int .i64 8) rfl (hm8'.out _)) ?_
      have hb := up_alloc (Below.refl wr1.heap.size wr1) (.cells Z8 5)
      have hr := HZ8.out wr1
      generalize wr1.alloc (.cells Z8 5) = wr2 at hb hr ⊢
      replace HR1 := Lib.hid ((HR1.out.below hb).more hb.size)
      have HR2 := Lib.hid hr
      replace HBL := Lib.hid (up HBL.out hb)
      clear hb hr
      refine hK.out _ _ (hF.out _ HBL.out) (fun _ => ?_)
      clear hK K
      try go_frame
      refine wpAnyH_ready (rs := [5]) (by kernel_rfl) (by simp) (AllReadyH.cons (o := ⟨some 15, .buildSlice 22 4 #[(0, .const (.int .u8 80)), (1, .tmp 14), (2, .const (.int .u8 0)), (3, .const (.int .u8 0))], _, _, _, none⟩) rfl (fun K hK => ?_) AllReadyH.nil)
      rw [if_pos (by kernel_rfl)]
      go_simp
      have hb := up_alloc (Below.refl wr2.heap.size wr2) (.cells #[.int .u8 80, .int .u8 (s.flags.toNat : Int), .int .u8 0, .int .u8 0] 5)
      have hr := HL.out wr2
      generalize wr2.alloc (.cells #[.int .u8 80, .int .u8 (s.flags.toNat : Int), .int .u8 0, .int .u8 0] 5) = wr3 at hb hr ⊢
      replace HR1 := Lib.hid ((HR1.out.below hb).more hb.size)
      replace HR2 := Lib.hid ((HR2.out.below hb).more hb.size)
      have HR3 := Lib.hid hr
      replace HBL := Lib.hid (up HBL.out hb)
      clear hb hr
      refine hK.out _ _ (hF.out _ HBL.out) (fun _ => ?_)
      clear hK K
      try go_frame
      refine wpAnyH_ready (rs := [6]) (by kernel_rfl) (by simp) (AllReadyH.cons (o := ⟨some 16, .buildSlice 85 3 #[(0, .tmp 11), (1, .tmp 12), (2, .tmp 15)], _, _, _, none⟩) rfl (fun K hK => ?_) AllReadyH.nil)
      rw [if_pos (by kernel_rfl)]
      go_simp
      refine hK.out _ _ (hF.out _ (up_alloc HBL.out _)) (fun _ => ?_)
      clear hK K
      try go_frame
      refine wpAnyH_ready (rs := [7]) (by kernel_rfl) (by simp) (AllReadyH.cons (o := ⟨some 17, .call { callee := .value (.func 37), args := #[.tmp 16], argTypes := #[85] }, _, _, _, none⟩) rfl (fun K hK => ?_) AllReadyH.nil)
      rw [if_pos (by kernel_rfl)]
      go_simp
      refine (H2.out _ _ _ _ _ _ _ _ _ _ HR1.out HR2.out HR3.out).mono ?_
      rintro _ wr ⟨Af, nf, cf, rfl, hrf, hbf⟩
      have HRF := Lib.hid hrf
      have HBF := Lib.hid (up HBL.out hbf)
      clear hrf hbf HR1 HR2 HR3 HBL
      dsimp only
      refine hK.out _ _ (hF.out _ HBF.out) (fun _ => ?_)
      clear hK K
      try go_frame
      refine th 8 ?_ (hy := by (intro wy hSw; obtain ⟨s1, s2⟩ := hSw; go_simp <;> with_reducible rfl))
      go_frame
      refine wpAnyH_done (by kernel_rfl) ?_ _
      go_wp2_with (first
        | ((with_reducible refine wpList_run (o := ⟨some 18, .makeSlice 22 (.const (.int .i64 2)) (.const (.int .i64 2)), _, _, _, none⟩) rfl (.slice (some ⟨wr.heap.size, 0, none⟩) 2 2) (wr.alloc (.cells Z2 5)) ?_ ?_); exact exec_makeSlice (t := 22) (x := .const (.int .i64 2)) (y := .const (.int .i64 2)) rfl (u := .int .i64 2) rfl (v := .int .i64 2) rfl (hmZ.out _))
        | (go_at_call 37; have hx1 := HRA; clear hx1; refine (H7.out _ _ _ _ _ _ _ HRA.out HRL.out).mono ?_; rintro _ wz ⟨v, rfl, hv, hb⟩; have HT := Lib.hid (And.intro (hv.weaken (base' := w.heap.size) (by have := (up hXb.out HBA.out).size; omega)) (up (up hXb.out HBA.out) hb)); clear hv hb)
        | (go_at_call 37; refine (H3.out _ (up hXb.out HBF.out)).mono ?_; rintro _ wl ⟨Al, nl, cl, rfl, hrl, hbl⟩; have HRL := Lib.hid hrl; replace HRF := Lib.hid ((HRF.out.below hbl).more hbl.size); have HBL := Lib.hid (up HBF.out hbl); have hatL := hAt.out _ HBL.out; clear hrl hbl)
        | ((with_reducible refine wpList_load_row (o := ⟨some 22, .load 28 (.tmp 3), _, _, _, _⟩) rfl 28 (.tmp 3) rfl w.heap.size ?_ 28 C (0, 0) _ hatL Try.underlying28 rfl hi ?_); exact rfl)
        | (go_at_call 54; refine (H4.out _).mono ?_; rintro _ wp ⟨Ap, np, cp, rfl, hrp, hbp⟩; have HRP := Lib.hid hrp; replace HRF := Lib.hid ((HRF.out.below hbp).more hbp.size); replace HRL := Lib.hid ((HRL.out.below hbp).more hbp.size); have HBP := Lib.hid (up HBL.out hbp); clear hrp hbp)
        | (go_at_call 40; refine (H5.out _ _ _ _ _ _ _ _ _ _ HRP.out HRF.out HRL.out).mono ?_; rintro _ ws ⟨rfl, hbs⟩; replace HRF := Lib.hid ((HRF.out.below hbs).more hbs.size); replace HRL := Lib.hid ((HRL.out.below hbs).more hbs.size); have HBS := Lib.hid (up HBP.out hbs); clear hbs)
        | (go_at_call 36; refine (H6.out _ _ _ _ HRF.out).mono ?_; rintro _ wa ⟨Aa, na, ca, rfl, hra, hba⟩; have HRA := Lib.hid hra; replace HRL := Lib.hid ((HRL.out.below hba).more hba.size); have HBA := Lib.hid (up HBS.out hba); clear hra hba))
      go_ret
      exact ⟨_, rfl, HT.out.1, HT.out.2⟩
    · rw [if_pos (by kernel_rfl)]
      go_simp
      have hb := up_alloc (Below.refl wr1.heap.size wr1) (.cells #[.int .u8 80, .int .u8 (s.flags.toNat : Int), .int .u8 0, .int .u8 0] 5)
      have hr := HL.out wr1
      generalize wr1.alloc (.cells #[.int .u8 80, .int .u8 (s.flags.toNat : Int), .int .u8 0, .int .u8 0] 5) = wr2 at hb hr ⊢
      replace HR1 := Lib.hid ((HR1.out.below hb).more hb.size)
      have HR3 := Lib.hid hr
      replace HBL := Lib.hid (up HBL.out hb)
      clear hb hr
      refine hK.out _ _ (hF.out _ HBL.out) (fun _ => ?_)
      clear hK K
      try go_frame
      refine wpAnyH_ready (rs := [2]) (by kernel_rfl) (by simp) (AllReadyH.cons (o := ⟨some 12, .makeSlice 22 (.const (.int .i64 8)) (.const (.int .i64 8)), _, _, _, none⟩) rfl (fun K hK => ?_) AllReadyH.nil)
      rw [if_pos (by kernel_rfl)]
      refine wp_run (.slice (some ⟨wr2.heap.size, 0, none⟩) 8 8) (wr2.alloc (.cells Z8 5)) (exec_makeSlice (t := 22) (x := .const (.int .i64 8)) (y := .const (.int .i64 8)) rfl (u := .int .i64 8) rfl (v := .int .i64 8) rfl (hm8'.out _)) ?_
      have hb := up_alloc (Below.refl wr2.heap.size wr2) (.cells Z8 5)
      have hr := HZ8.out wr2
      generalize wr2.alloc (.cells Z8 5) = wr3 at hb hr ⊢
      replace HR1 := Lib.hid ((HR1.out.below hb).more hb.size)
      replace HR3 := Lib.hid ((HR3.out.below hb).more hb.size)
      have HR2 := Lib.hid hr
      replace HBL := Lib.hid (up HBL.out hb)
      clear hb hr
      refine hK.out _ _ (hF.out _ HBL.out) (fun _ => ?_)
      clear hK K
      try go_frame
      refine wpAnyH_ready (rs := [6]) (by kernel_rfl) (by simp) (AllReadyH.cons (o := ⟨some 16, .buildSlice 85 3 #[(0, .tmp 11), (1, .tmp 12), (2, .tmp 15)], _, _, _, none⟩) rfl (fun K hK => ?_) AllReadyH.nil)
      rw [if_pos (by kernel_rfl)]
      go_simp
      refine hK.out _ _ (hF.out _ (up_alloc HBL.out _)) (fun _ => ?_)
      clear hK K
      try go_frame
      refine wpAnyH_ready (rs := [7]) (by kernel_rfl) (by simp) (AllReadyH.cons (o := ⟨some 17, .call { callee := .value (.func 37), args := #[.tmp 16], argTypes := #[85] }, _, _, _, none⟩) rfl (fun K hK => ?_) AllReadyH.nil)
      rw [if_pos (by kernel_rfl)]
      go_simp
      refine (H2.out _ _ _ _ _ _ _ _ _ _ HR1.out HR2.out HR3.out).mono ?_
      rintro _ wr ⟨Af, nf, cf, rfl, hrf, hbf⟩
      have HRF := Lib.hid hrf
      have HBF := Lib.hid (up HBL.out hbf)
      clear hrf hbf HR1 HR2 HR3 HBL
      dsimp only
      refine hK.out _ _ (hF.out _ HBF.out) (fun _ => ?_)
      clear hK K
      try go_frame
      refine th 8 ?_ (hy := by (intro wy hSw; obtain ⟨s1, s2⟩ := hSw; go_simp <;> with_reducible rfl))
      go_frame
      refine wpAnyH_done (by kernel_rfl) ?_ _
      go_wp2_with (first
        | ((with_reducible refine wpList_run (o := ⟨some 18, .makeSlice 22 (.const (.int .i64 2)) (.const (.int .i64 2)), _, _, _, none⟩) rfl (.slice (some ⟨wr.heap.size, 0, none⟩) 2 2) (wr.alloc (.cells Z2 5)) ?_ ?_); exact exec_makeSlice (t := 22) (x := .const (.int .i64 2)) (y := .const (.int .i64 2)) rfl (u := .int .i64 2) rfl (v := .int .i64 2) rfl (hmZ.out _))
        | (go_at_call 37; have hx1 := HRA; clear hx1; refine (H7.out _ _ _ _ _ _ _ HRA.out HRL.out).mono ?_; rintro _ wz ⟨v, rfl, hv, hb⟩; have HT := Lib.hid (And.intro (hv.weaken (base' := w.heap.size) (by have := (up hXb.out HBA.out).size; omega)) (up (up hXb.out HBA.out) hb)); clear hv hb)
        | (go_at_call 37; refine (H3.out _ (up hXb.out HBF.out)).mono ?_; rintro _ wl ⟨Al, nl, cl, rfl, hrl, hbl⟩; have HRL := Lib.hid hrl; replace HRF := Lib.hid ((HRF.out.below hbl).more hbl.size); have HBL := Lib.hid (up HBF.out hbl); have hatL := hAt.out _ HBL.out; clear hrl hbl)
        | ((with_reducible refine wpList_load_row (o := ⟨some 22, .load 28 (.tmp 3), _, _, _, _⟩) rfl 28 (.tmp 3) rfl w.heap.size ?_ 28 C (0, 0) _ hatL Try.underlying28 rfl hi ?_); exact rfl)
        | (go_at_call 54; refine (H4.out _).mono ?_; rintro _ wp ⟨Ap, np, cp, rfl, hrp, hbp⟩; have HRP := Lib.hid hrp; replace HRF := Lib.hid ((HRF.out.below hbp).more hbp.size); replace HRL := Lib.hid ((HRL.out.below hbp).more hbp.size); have HBP := Lib.hid (up HBL.out hbp); clear hrp hbp)
        | (go_at_call 40; refine (H5.out _ _ _ _ _ _ _ _ _ _ HRP.out HRF.out HRL.out).mono ?_; rintro _ ws ⟨rfl, hbs⟩; replace HRF := Lib.hid ((HRF.out.below hbs).more hbs.size); replace HRL := Lib.hid ((HRL.out.below hbs).more hbs.size); have HBS := Lib.hid (up HBP.out hbs); clear hbs)
        | (go_at_call 36; refine (H6.out _ _ _ _ HRF.out).mono ?_; rintro _ wa ⟨Aa, na, ca, rfl, hra, hba⟩; have HRA := Lib.hid hra; replace HRL := Lib.hid ((HRL.out.below hba).more hba.size); have HBA := Lib.hid (up HBS.out hba); clear hra hba))
      go_ret
      exact ⟨_, rfl, HT.out.1, HT.out.2⟩
  · rw [if_pos (by kernel_rfl)]
    refine wp_run (.slice (some ⟨X.drew.heap.size, 0, none⟩) 8 8) (X.drew.alloc (.cells Z8 5)) (exec_makeSlice (t := 22) (x := .const (.int .i64 8)) (y := .const (.int .i64 8)) rfl (u := .int .i64 8) rfl (v := .int .i64 8) rfl (hm8'.out _)) ?_
    have hb := up_alloc (Below.refl X.drew.heap.size X.drew) (.cells Z8 5)
    have hr := HZ8.out X.drew
    generalize X.drew.alloc (.cells Z8 5) = wr1 at hb hr ⊢
    have HR2 := Lib.hid hr
    have HBL := Lib.hid (up hxd.out hb)
    clear hb hr
    refine hK.out _ _ (hF.out _ HBL.out) (fun _ => ?_)
    clear hK K
    try go_frame
    refine wpAnyH_ready (rs := [1, 5]) (by kernel_rfl) (by simp) (AllReadyH.cons (o := ⟨some 11, .call { callee := .value (.func 53), args := #[.tmp 10], argTypes := #[31] }, _, _, _, none⟩) rfl (fun K hK => ?_) (AllReadyH.cons (o := ⟨some 15, .buildSlice 22 4 #[(0, .const (.int .u8 80)), (1, .tmp 14), (2, .const (.int .u8 0)), (3, .const (.int .u8 0))], _, _, _, none⟩) rfl (fun K hK => ?_) AllReadyH.nil))
    · rw [if_pos (by kernel_rfl)]
      go_simp
      refine (H1.out _).mono ?_
      rintro _ wr2 ⟨A1, n1, c1, rfl, hr1, hb⟩
      replace HR2 := Lib.hid ((HR2.out.below hb).more hb.size)
      have HR1 := Lib.hid hr1
      replace HBL := Lib.hid (up HBL.out hb)
      clear hb hr1
      dsimp only
      refine hK.out _ _ (hF.out _ HBL.out) (fun _ => ?_)
      clear hK K
      try go_frame
      refine wpAnyH_ready (rs := [5]) (by kernel_rfl) (by simp) (AllReadyH.cons (o := ⟨some 15, .buildSlice 22 4 #[(0, .const (.int .u8 80)), (1, .tmp 14), (2, .const (.int .u8 0)), (3, .const (.int .u8 0))], _, _, _, none⟩) rfl (fun K hK => ?_) AllReadyH.nil)
      rw [if_pos (by kernel_rfl)]
      go_simp
      have hb := up_alloc (Below.refl wr2.heap.size wr2) (.cells #[.int .u8 80, .int .u8 (s.flags.toNat : Int), .int .u8 0, .int .u8 0] 5)
      have hr := HL.out wr2
      generalize wr2.alloc (.cells #[.int .u8 80, .int .u8 (s.flags.toNat : Int), .int .u8 0, .int .u8 0] 5) = wr3 at hb hr ⊢
      replace HR1 := Lib.hid ((HR1.out.below hb).more hb.size)
      replace HR2 := Lib.hid ((HR2.out.below hb).more hb.size)
      have HR3 := Lib.hid hr
      replace HBL := Lib.hid (up HBL.out hb)
      clear hb hr
      refine hK.out _ _ (hF.out _ HBL.out) (fun _ => ?_)
      clear hK K
      try go_frame
      refine wpAnyH_ready (rs := [6]) (by kernel_rfl) (by simp) (AllReadyH.cons (o := ⟨some 16, .buildSlice 85 3 #[(0, .tmp 11), (1, .tmp 12), (2, .tmp 15)], _, _, _, none⟩) rfl (fun K hK => ?_) AllReadyH.nil)
      rw [if_pos (by kernel_rfl)]
      go_simp
      refine hK.out _ _ (hF.out _ (up_alloc HBL.out _)) (fun _ => ?_)
      clear hK K
      try go_frame
      refine wpAnyH_ready (rs := [7]) (by kernel_rfl) (by simp) (AllReadyH.cons (o := ⟨some 17, .call { callee := .value (.func 37), args := #[.tmp 16], argTypes := #[85] }, _, _, _, none⟩) rfl (fun K hK => ?_) AllReadyH.nil)
      rw [if_pos (by kernel_rfl)]
      go_simp
      refine (H2.out _ _ _ _ _ _ _ _ _ _ HR1.out HR2.out HR3.out).mono ?_
      rintro _ wr ⟨Af, nf, cf, rfl, hrf, hbf⟩
      have HRF := Lib.hid hrf
      have HBF := Lib.hid (up HBL.out hbf)
      clear hrf hbf HR1 HR2 HR3 HBL
      dsimp only
      refine hK.out _ _ (hF.out _ HBF.out) (fun _ => ?_)
      clear hK K
      try go_frame
      refine th 8 ?_ (hy := by (intro wy hSw; obtain ⟨s1, s2⟩ := hSw; go_simp <;> with_reducible rfl))
      go_frame
      refine wpAnyH_done (by kernel_rfl) ?_ _
      go_wp2_with (first
        | ((with_reducible refine wpList_run (o := ⟨some 18, .makeSlice 22 (.const (.int .i64 2)) (.const (.int .i64 2)), _, _, _, none⟩) rfl (.slice (some ⟨wr.heap.size, 0, none⟩) 2 2) (wr.alloc (.cells Z2 5)) ?_ ?_); exact exec_makeSlice (t := 22) (x := .const (.int .i64 2)) (y := .const (.int .i64 2)) rfl (u := .int .i64 2) rfl (v := .int .i64 2) rfl (hmZ.out _))
        | (go_at_call 37; have hx1 := HRA; clear hx1; refine (H7.out _ _ _ _ _ _ _ HRA.out HRL.out).mono ?_; rintro _ wz ⟨v, rfl, hv, hb⟩; have HT := Lib.hid (And.intro (hv.weaken (base' := w.heap.size) (by have := (up hXb.out HBA.out).size; omega)) (up (up hXb.out HBA.out) hb)); clear hv hb)
        | (go_at_call 37; refine (H3.out _ (up hXb.out HBF.out)).mono ?_; rintro _ wl ⟨Al, nl, cl, rfl, hrl, hbl⟩; have HRL := Lib.hid hrl; replace HRF := Lib.hid ((HRF.out.below hbl).more hbl.size); have HBL := Lib.hid (up HBF.out hbl); have hatL := hAt.out _ HBL.out; clear hrl hbl)
        | ((with_reducible refine wpList_load_row (o := ⟨some 22, .load 28 (.tmp 3), _, _, _, _⟩) rfl 28 (.tmp 3) rfl w.heap.size ?_ 28 C (0, 0) _ hatL Try.underlying28 rfl hi ?_); exact rfl)
        | (go_at_call 54; refine (H4.out _).mono ?_; rintro _ wp ⟨Ap, np, cp, rfl, hrp, hbp⟩; have HRP := Lib.hid hrp; replace HRF := Lib.hid ((HRF.out.below hbp).more hbp.size); replace HRL := Lib.hid ((HRL.out.below hbp).more hbp.size); have HBP := Lib.hid (up HBL.out hbp); clear hrp hbp)
        | (go_at_call 40; refine (H5.out _ _ _ _ _ _ _ _ _ _ HRP.out HRF.out HRL.out).mono ?_; rintro _ ws ⟨rfl, hbs⟩; replace HRF := Lib.hid ((HRF.out.below hbs).more hbs.size); replace HRL := Lib.hid ((HRL.out.below hbs).more hbs.size); have HBS := Lib.hid (up HBP.out hbs); clear hbs)
        | (go_at_call 36; refine (H6.out _ _ _ _ HRF.out).mono ?_; rintro _ wa ⟨Aa, na, ca, rfl, hra, hba⟩; have HRA := Lib.hid hra; replace HRL := Lib.hid ((HRL.out.below hba).more hba.size); have HBA := Lib.hid (up HBS.out hba); clear hra hba))
      go_ret
      exact ⟨_, rfl, HT.out.1, HT.out.2⟩
    · rw [if_pos (by kernel_rfl)]
      go_simp
      have hb := up_alloc (Below.refl wr1.heap.size wr1) (.cells #[.int .u8 80, .int .u8 (s.flags.toNat : Int), .int .u8 0, .int .u8 0] 5)
      have hr := HL.out wr1
      generalize wr1.alloc (.cells #[.int .u8 80, .int .u8 (s.flags.toNat : Int), .int .u8 0, .int .u8 0] 5) = wr2 at hb hr ⊢
      replace HR2 := Lib.hid ((HR2.out.below hb).more hb.size)
      have HR3 := Lib.hid hr
      replace HBL := Lib.hid (up HBL.out hb)
      clear hb hr
      refine hK.out _ _ (hF.out _ HBL.out) (fun _ => ?_)
      clear hK K
      try go_frame
      refine wpAnyH_ready (rs := [1]) (by kernel_rfl) (by simp) (AllReadyH.cons (o := ⟨some 11, .call { callee := .value (.func 53), args := #[.tmp 10], argTypes := #[31] }, _, _, _, none⟩) rfl (fun K hK => ?_) AllReadyH.nil)
      rw [if_pos (by kernel_rfl)]
      go_simp
      refine (H1.out _).mono ?_
      rintro _ wr3 ⟨A1, n1, c1, rfl, hr1, hb⟩
      replace HR2 := Lib.hid ((HR2.out.below hb).more hb.size)
      replace HR3 := Lib.hid ((HR3.out.below hb).more hb.size)
      have HR1 := Lib.hid hr1
      replace HBL := Lib.hid (up HBL.out hb)
      clear hb hr1
      dsimp only
      refine hK.out _ _ (hF.out _ HBL.out) (fun _ => ?_)
      clear hK K
      try go_frame
      refine wpAnyH_ready (rs := [6]) (by kernel_rfl) (by simp) (AllReadyH.cons (o := ⟨some 16, .buildSlice 85 3 #[(0, .tmp 11), (1, .tmp 12), (2, .tmp 15)], _, _, _, none⟩) rfl (fun K hK => ?_) AllReadyH.nil)
      rw [if_pos (by kernel_rfl)]
      go_simp
      refine hK.out _ _ (hF.out _ (up_alloc HBL.out _)) (fun _ => ?_)
      clear hK K
      try go_frame
      refine wpAnyH_ready (rs := [7]) (by kernel_rfl) (by simp) (AllReadyH.cons (o := ⟨some 17, .call { callee := .value (.func 37), args := #[.tmp 16], argTypes := #[85] }, _, _, _, none⟩) rfl (fun K hK => ?_) AllReadyH.nil)
      rw [if_pos (by kernel_rfl)]
      go_simp
      refine (H2.out _ _ _ _ _ _ _ _ _ _ HR1.out HR2.out HR3.out).mono ?_
      rintro _ wr ⟨Af, nf, cf, rfl, hrf, hbf⟩
      have HRF := Lib.hid hrf
      have HBF := Lib.hid (up HBL.out hbf)
      clear hrf hbf HR1 HR2 HR3 HBL
      dsimp only
      refine hK.out _ _ (hF.out _ HBF.out) (fun _ => ?_)
      clear hK K
      try go_frame
      refine th 8 ?_ (hy := by (intro wy hSw; obtain ⟨s1, s2⟩ := hSw; go_simp <;> with_reducible rfl))
      go_frame
      refine wpAnyH_done (by kernel_rfl) ?_ _
      go_wp2_with (first
        | ((with_reducible refine wpList_run (o := ⟨some 18, .makeSlice 22 (.const (.int .i64 2)) (.const (.int .i64 2)), _, _, _, none⟩) rfl (.slice (some ⟨wr.heap.size, 0, none⟩) 2 2) (wr.alloc (.cells Z2 5)) ?_ ?_); exact exec_makeSlice (t := 22) (x := .const (.int .i64 2)) (y := .const (.int .i64 2)) rfl (u := .int .i64 2) rfl (v := .int .i64 2) rfl (hmZ.out _))
        | (go_at_call 37; have hx1 := HRA; clear hx1; refine (H7.out _ _ _ _ _ _ _ HRA.out HRL.out).mono ?_; rintro _ wz ⟨v, rfl, hv, hb⟩; have HT := Lib.hid (And.intro (hv.weaken (base' := w.heap.size) (by have := (up hXb.out HBA.out).size; omega)) (up (up hXb.out HBA.out) hb)); clear hv hb)
        | (go_at_call 37; refine (H3.out _ (up hXb.out HBF.out)).mono ?_; rintro _ wl ⟨Al, nl, cl, rfl, hrl, hbl⟩; have HRL := Lib.hid hrl; replace HRF := Lib.hid ((HRF.out.below hbl).more hbl.size); have HBL := Lib.hid (up HBF.out hbl); have hatL := hAt.out _ HBL.out; clear hrl hbl)
        | ((with_reducible refine wpList_load_row (o := ⟨some 22, .load 28 (.tmp 3), _, _, _, _⟩) rfl 28 (.tmp 3) rfl w.heap.size ?_ 28 C (0, 0) _ hatL Try.underlying28 rfl hi ?_); exact rfl)
        | (go_at_call 54; refine (H4.out _).mono ?_; rintro _ wp ⟨Ap, np, cp, rfl, hrp, hbp⟩; have HRP := Lib.hid hrp; replace HRF := Lib.hid ((HRF.out.below hbp).more hbp.size); replace HRL := Lib.hid ((HRL.out.below hbp).more hbp.size); have HBP := Lib.hid (up HBL.out hbp); clear hrp hbp)
        | (go_at_call 40; refine (H5.out _ _ _ _ _ _ _ _ _ _ HRP.out HRF.out HRL.out).mono ?_; rintro _ ws ⟨rfl, hbs⟩; replace HRF := Lib.hid ((HRF.out.below hbs).more hbs.size); replace HRL := Lib.hid ((HRL.out.below hbs).more hbs.size); have HBS := Lib.hid (up HBP.out hbs); clear hbs)
        | (go_at_call 36; refine (H6.out _ _ _ _ HRF.out).mono ?_; rintro _ wa ⟨Aa, na, ca, rfl, hra, hba⟩; have HRA := Lib.hid hra; replace HRL := Lib.hid ((HRL.out.below hba).more hba.size); have HBA := Lib.hid (up HBS.out hba); clear hra hba))
      go_ret
      exact ⟨_, rfl, HT.out.1, HT.out.2⟩
  · rw [if_pos (by kernel_rfl)]
    go_simp
    rw [show (X.alloc (.cells #[.int .u8 80, .int .u8 (s.flags.toNat : Int), .int .u8 0, .int .u8 0] 5)).drew = X.drew.alloc (.cells #[.int .u8 80, .int .u8 (s.flags.toNat : Int), .int .u8 0, .int .u8 0] 5) from rfl]
    have hb := up_alloc (Below.refl X.drew.heap.size X.drew) (.cells #[.int .u8 80, .int .u8 (s.flags.toNat : Int), .int .u8 0, .int .u8 0] 5)
    have hr := HL.out X.drew
    generalize X.drew.alloc (.cells #[.int .u8 80, .int .u8 (s.flags.toNat : Int), .int .u8 0, .int .u8 0] 5) = wr1 at hb hr ⊢
    have HR3 := Lib.hid hr
    have HBL := Lib.hid (up hxd.out hb)
    clear hb hr
    refine hK.out _ _ (hF.out _ HBL.out) (fun _ => ?_)
    clear hK K
    try go_frame
    refine wpAnyH_ready (rs := [1, 2]) (by kernel_rfl) (by simp) (AllReadyH.cons (o := ⟨some 11, .call { callee := .value (.func 53), args := #[.tmp 10], argTypes := #[31] }, _, _, _, none⟩) rfl (fun K hK => ?_) (AllReadyH.cons (o := ⟨some 12, .makeSlice 22 (.const (.int .i64 8)) (.const (.int .i64 8)), _, _, _, none⟩) rfl (fun K hK => ?_) AllReadyH.nil))
    · rw [if_pos (by kernel_rfl)]
      go_simp
      refine (H1.out _).mono ?_
      rintro _ wr2 ⟨A1, n1, c1, rfl, hr1, hb⟩
      replace HR3 := Lib.hid ((HR3.out.below hb).more hb.size)
      have HR1 := Lib.hid hr1
      replace HBL := Lib.hid (up HBL.out hb)
      clear hb hr1
      dsimp only
      refine hK.out _ _ (hF.out _ HBL.out) (fun _ => ?_)
      clear hK K
      try go_frame
      refine wpAnyH_ready (rs := [2]) (by kernel_rfl) (by simp) (AllReadyH.cons (o := ⟨some 12, .makeSlice 22 (.const (.int .i64 8)) (.const (.int .i64 8)), _, _, _, none⟩) rfl (fun K hK => ?_) AllReadyH.nil)
      rw [if_pos (by kernel_rfl)]
      refine wp_run (.slice (some ⟨wr2.heap.size, 0, none⟩) 8 8) (wr2.alloc (.cells Z8 5)) (exec_makeSlice (t := 22) (x := .const (.int .i64 8)) (y := .const (.int .i64 8)) rfl (u := .int .i64 8) rfl (v := .int .i64 8) rfl (hm8'.out _)) ?_
      have hb := up_alloc (Below.refl wr2.heap.size wr2) (.cells Z8 5)
      have hr := HZ8.out wr2
      generalize wr2.alloc (.cells Z8 5) = wr3 at hb hr ⊢
      replace HR1 := Lib.hid ((HR1.out.below hb).more hb.size)
      replace HR3 := Lib.hid ((HR3.out.below hb).more hb.size)
      have HR2 := Lib.hid hr
      replace HBL := Lib.hid (up HBL.out hb)
      clear hb hr
      refine hK.out _ _ (hF.out _ HBL.out) (fun _ => ?_)
      clear hK K
      try go_frame
      refine wpAnyH_ready (rs := [6]) (by kernel_rfl) (by simp) (AllReadyH.cons (o := ⟨some 16, .buildSlice 85 3 #[(0, .tmp 11), (1, .tmp 12), (2, .tmp 15)], _, _, _, none⟩) rfl (fun K hK => ?_) AllReadyH.nil)
      rw [if_pos (by kernel_rfl)]
      go_simp
      refine hK.out _ _ (hF.out _ (up_alloc HBL.out _)) (fun _ => ?_)
      clear hK K
      try go_frame
      refine wpAnyH_ready (rs := [7]) (by kernel_rfl) (by simp) (AllReadyH.cons (o := ⟨some 17, .call { callee := .value (.func 37), args := #[.tmp 16], argTypes := #[85] }, _, _, _, none⟩) rfl (fun K hK => ?_) AllReadyH.nil)
      rw [if_pos (by kernel_rfl)]
      go_simp
      refine (H2.out _ _ _ _ _ _ _ _ _ _ HR1.out HR2.out HR3.out).mono ?_
      rintro _ wr ⟨Af, nf, cf, rfl, hrf, hbf⟩
      have HRF := Lib.hid hrf
      have HBF := Lib.hid (up HBL.out hbf)
      clear hrf hbf HR1 HR2 HR3 HBL
      dsimp only
      refine hK.out _ _ (hF.out _ HBF.out) (fun _ => ?_)
      clear hK K
      try go_frame
      refine th 8 ?_ (hy := by (intro wy hSw; obtain ⟨s1, s2⟩ := hSw; go_simp <;> with_reducible rfl))
      go_frame
      refine wpAnyH_done (by kernel_rfl) ?_ _
      go_wp2_with (first
        | ((with_reducible refine wpList_run (o := ⟨some 18, .makeSlice 22 (.const (.int .i64 2)) (.const (.int .i64 2)), _, _, _, none⟩) rfl (.slice (some ⟨wr.heap.size, 0, none⟩) 2 2) (wr.alloc (.cells Z2 5)) ?_ ?_); exact exec_makeSlice (t := 22) (x := .const (.int .i64 2)) (y := .const (.int .i64 2)) rfl (u := .int .i64 2) rfl (v := .int .i64 2) rfl (hmZ.out _))
        | (go_at_call 37; have hx1 := HRA; clear hx1; refine (H7.out _ _ _ _ _ _ _ HRA.out HRL.out).mono ?_; rintro _ wz ⟨v, rfl, hv, hb⟩; have HT := Lib.hid (And.intro (hv.weaken (base' := w.heap.size) (by have := (up hXb.out HBA.out).size; omega)) (up (up hXb.out HBA.out) hb)); clear hv hb)
        | (go_at_call 37; refine (H3.out _ (up hXb.out HBF.out)).mono ?_; rintro _ wl ⟨Al, nl, cl, rfl, hrl, hbl⟩; have HRL := Lib.hid hrl; replace HRF := Lib.hid ((HRF.out.below hbl).more hbl.size); have HBL := Lib.hid (up HBF.out hbl); have hatL := hAt.out _ HBL.out; clear hrl hbl)
        | ((with_reducible refine wpList_load_row (o := ⟨some 22, .load 28 (.tmp 3), _, _, _, _⟩) rfl 28 (.tmp 3) rfl w.heap.size ?_ 28 C (0, 0) _ hatL Try.underlying28 rfl hi ?_); exact rfl)
        | (go_at_call 54; refine (H4.out _).mono ?_; rintro _ wp ⟨Ap, np, cp, rfl, hrp, hbp⟩; have HRP := Lib.hid hrp; replace HRF := Lib.hid ((HRF.out.below hbp).more hbp.size); replace HRL := Lib.hid ((HRL.out.below hbp).more hbp.size); have HBP := Lib.hid (up HBL.out hbp); clear hrp hbp)
        | (go_at_call 40; refine (H5.out _ _ _ _ _ _ _ _ _ _ HRP.out HRF.out HRL.out).mono ?_; rintro _ ws ⟨rfl, hbs⟩; replace HRF := Lib.hid ((HRF.out.below hbs).more hbs.size); replace HRL := Lib.hid ((HRL.out.below hbs).more hbs.size); have HBS := Lib.hid (up HBP.out hbs); clear hbs)
        | (go_at_call 36; refine (H6.out _ _ _ _ HRF.out).mono ?_; rintro _ wa ⟨Aa, na, ca, rfl, hra, hba⟩; have HRA := Lib.hid hra; replace HRL := Lib.hid ((HRL.out.below hba).more hba.size); have HBA := Lib.hid (up HBS.out hba); clear hra hba))
      go_ret
      exact ⟨_, rfl, HT.out.1, HT.out.2⟩
    · rw [if_pos (by kernel_rfl)]
      refine wp_run (.slice (some ⟨wr1.heap.size, 0, none⟩) 8 8) (wr1.alloc (.cells Z8 5)) (exec_makeSlice (t := 22) (x := .const (.int .i64 8)) (y := .const (.int .i64 8)) rfl (u := .int .i64 8) rfl (v := .int .i64 8) rfl (hm8'.out _)) ?_
      have hb := up_alloc (Below.refl wr1.heap.size wr1) (.cells Z8 5)
      have hr := HZ8.out wr1
      generalize wr1.alloc (.cells Z8 5) = wr2 at hb hr ⊢
      replace HR3 := Lib.hid ((HR3.out.below hb).more hb.size)
      have HR2 := Lib.hid hr
      replace HBL := Lib.hid (up HBL.out hb)
      clear hb hr
      refine hK.out _ _ (hF.out _ HBL.out) (fun _ => ?_)
      clear hK K
      try go_frame
      refine wpAnyH_ready (rs := [1]) (by kernel_rfl) (by simp) (AllReadyH.cons (o := ⟨some 11, .call { callee := .value (.func 53), args := #[.tmp 10], argTypes := #[31] }, _, _, _, none⟩) rfl (fun K hK => ?_) AllReadyH.nil)
      rw [if_pos (by kernel_rfl)]
      go_simp
      refine (H1.out _).mono ?_
      rintro _ wr3 ⟨A1, n1, c1, rfl, hr1, hb⟩
      replace HR2 := Lib.hid ((HR2.out.below hb).more hb.size)
      replace HR3 := Lib.hid ((HR3.out.below hb).more hb.size)
      have HR1 := Lib.hid hr1
      replace HBL := Lib.hid (up HBL.out hb)
      clear hb hr1
      dsimp only
      refine hK.out _ _ (hF.out _ HBL.out) (fun _ => ?_)
      clear hK K
      try go_frame
      refine wpAnyH_ready (rs := [6]) (by kernel_rfl) (by simp) (AllReadyH.cons (o := ⟨some 16, .buildSlice 85 3 #[(0, .tmp 11), (1, .tmp 12), (2, .tmp 15)], _, _, _, none⟩) rfl (fun K hK => ?_) AllReadyH.nil)
      rw [if_pos (by kernel_rfl)]
      go_simp
      refine hK.out _ _ (hF.out _ (up_alloc HBL.out _)) (fun _ => ?_)
      clear hK K
      try go_frame
      refine wpAnyH_ready (rs := [7]) (by kernel_rfl) (by simp) (AllReadyH.cons (o := ⟨some 17, .call { callee := .value (.func 37), args := #[.tmp 16], argTypes := #[85] }, _, _, _, none⟩) rfl (fun K hK => ?_) AllReadyH.nil)
      rw [if_pos (by kernel_rfl)]
      go_simp
      refine (H2.out _ _ _ _ _ _ _ _ _ _ HR1.out HR2.out HR3.out).mono ?_
      rintro _ wr ⟨Af, nf, cf, rfl, hrf, hbf⟩
      have HRF := Lib.hid hrf
      have HBF := Lib.hid (up HBL.out hbf)
      clear hrf hbf HR1 HR2 HR3 HBL
      dsimp only
      refine hK.out _ _ (hF.out _ HBF.out) (fun _ => ?_)
      clear hK K
      try go_frame
      refine th 8 ?_ (hy := by (intro wy hSw; obtain ⟨s1, s2⟩ := hSw; go_simp <;> with_reducible rfl))
      go_frame
      refine wpAnyH_done (by kernel_rfl) ?_ _
      go_wp2_with (first
        | ((with_reducible refine wpList_run (o := ⟨some 18, .makeSlice 22 (.const (.int .i64 2)) (.const (.int .i64 2)), _, _, _, none⟩) rfl (.slice (some ⟨wr.heap.size, 0, none⟩) 2 2) (wr.alloc (.cells Z2 5)) ?_ ?_); exact exec_makeSlice (t := 22) (x := .const (.int .i64 2)) (y := .const (.int .i64 2)) rfl (u := .int .i64 2) rfl (v := .int .i64 2) rfl (hmZ.out _))
        | (go_at_call 37; have hx1 := HRA; clear hx1; refine (H7.out _ _ _ _ _ _ _ HRA.out HRL.out).mono ?_; rintro _ wz ⟨v, rfl, hv, hb⟩; have HT := Lib.hid (And.intro (hv.weaken (base' := w.heap.size) (by have := (up hXb.out HBA.out).size; omega)) (up (up hXb.out HBA.out) hb)); clear hv hb)
        | (go_at_call 37; refine (H3.out _ (up hXb.out HBF.out)).mono ?_; rintro _ wl ⟨Al, nl, cl, rfl, hrl, hbl⟩; have HRL := Lib.hid hrl; replace HRF := Lib.hid ((HRF.out.below hbl).more hbl.size); have HBL := Lib.hid (up HBF.out hbl); have hatL := hAt.out _ HBL.out; clear hrl hbl)
        | ((with_reducible refine wpList_load_row (o := ⟨some 22, .load 28 (.tmp 3), _, _, _, _⟩) rfl 28 (.tmp 3) rfl w.heap.size ?_ 28 C (0, 0) _ hatL Try.underlying28 rfl hi ?_); exact rfl)
        | (go_at_call 54; refine (H4.out _).mono ?_; rintro _ wp ⟨Ap, np, cp, rfl, hrp, hbp⟩; have HRP := Lib.hid hrp; replace HRF := Lib.hid ((HRF.out.below hbp).more hbp.size); replace HRL := Lib.hid ((HRL.out.below hbp).more hbp.size); have HBP := Lib.hid (up HBL.out hbp); clear hrp hbp)
        | (go_at_call 40; refine (H5.out _ _ _ _ _ _ _ _ _ _ HRP.out HRF.out HRL.out).mono ?_; rintro _ ws ⟨rfl, hbs⟩; replace HRF := Lib.hid ((HRF.out.below hbs).more hbs.size); replace HRL := Lib.hid ((HRL.out.below hbs).more hbs.size); have HBS := Lib.hid (up HBP.out hbs); clear hbs)
        | (go_at_call 36; refine (H6.out _ _ _ _ HRF.out).mono ?_; rintro _ wa ⟨Aa, na, ca, rfl, hra, hba⟩; have HRA := Lib.hid hra; replace HRL := Lib.hid ((HRL.out.below hba).more hba.size); have HBA := Lib.hid (up HBS.out hba); clear hra hba))
      go_ret
      exact ⟨_, rfl, HT.out.1, HT.out.2⟩
end Go.Proofs.Ytpgibabgedokpaa
