/-
  A packet that is on its way elsewhere: in memory; put.
  sumHead, sumSegment: contracts.
  readdress: a contract.
-/
import Derived.Test.YtejppekcniehpaaNtOut
import Derived.Test.YtejppekcniehpaaSgB
import Derived.Laws.CopyRow
namespace Go.Proofs.Ytejppekcniehpaa
open Go.RowKit
def pcC (p : Pk) (g n c : Nat) : List Value := pkC p ++ [.slice (some ⟨g, 0, none⟩) n c]
theorem pcC_length {p : Pk} (hp : p.Wide) (g n c : Nat) : (pcC p g n c).length = 83 := by simp [pcC, pkC_length hp]
theorem pcC_one (p : Pk) (g n c : Nat) : ∀ u ∈ pcC p g n c, u.oneCell' = true := by
  intro u hu
  rcases List.mem_append.1 hu with hu | hu
  · exact pkC_one _ u hu
  · simp at hu
    subst hu
    rfl
/-- The block m has what was read, and a slice; the block g has the bytes. -/
structure NtAt (w W : World) (m g c : Nat) (p : Pk) (l : List UInt8) : Prop where
  box : W.heap[m]? = some (.cells (pcC p g l.length c).toArray 59 (0, 0))
  row : ∃ sp : List Value, W.heap[g]? = some (.cells (cellsB l ++ sp).toArray 5 (0, 0))
  few : l.length ≤ c ∧ c ≤ 9223372036854775807
  ne : m ≠ g
  own : w.heap.size ≤ m ∧ w.heap.size ≤ g
  wide : p.Wide
  below : Below w.heap.size w W
section
variable {w W W' : World} {m g c : Nat} {p : Pk} {l : List UInt8}
theorem NtAt.lt (H : NtAt w W m g c p l) : m < W.heap.size ∧ g < W.heap.size := by
  obtain ⟨_, hr⟩ := H.row
  exact ⟨(Array.getElem?_eq_some_iff.1 H.box).1, (Array.getElem?_eq_some_iff.1 hr).1⟩
theorem NtAt.next (H : NtAt w W m g c p l) (hb : Below W.heap.size W W') : NtAt w W' m g c p l := by
  obtain ⟨sp, hr⟩ := H.row
  obtain ⟨h1, h2⟩ := H.lt
  exact ⟨(hb.block _ h1).trans H.box, ⟨sp, (hb.block _ h2).trans hr⟩, H.few, H.ne, H.own, H.wide, up H.below hb⟩
theorem NtAt.rd (H : NtAt w W m g c p l) : Rd W W.heap.size (.slice (some ⟨g, 0, none⟩) l.length c) (cellsB l) := by
  obtain ⟨sp, hr⟩ := H.row
  have h1 := H.few
  refine ⟨some ⟨g, 0, none⟩, c, by rw [cellsB_length], by rw [cellsB_length]; exact h1.1, by unfold maxLen; exact h1.2, (fun e => by cases e), fun _ => ⟨g, 0, rfl, H.lt.2, fun j u hu => ?_⟩⟩
  rw [Nat.zero_add, cell_of_row W g j _ _ _ hr, List.getElem?_toArray, List.getElem?_append_left (List.getElem?_eq_some_iff.1 hu).1]
  exact hu
theorem NtAt.looks (H : NtAt w W m g c p l) : (W.cell? ⟨m, 82, none⟩ = some (.slice (some ⟨g, 0, none⟩) l.length c) ∧ W.cell? ⟨m, 0, none⟩ = some (.bool p.head.six) ∧ W.cell? ⟨m, 1, none⟩ = some (.int .u8 (p.head.proto.toNat : Int)) ∧ W.cell? ⟨m, 2, none⟩ = some (.int .i64 p.head.pos)) ∧
    (W.cell? ⟨m, 42, none⟩ = some (.int .i64 p.sg.sumAt) ∧ W.cell? ⟨m, 43, none⟩ = some (.bool p.sg.zero)) ∧ W.rangeAt m 0 (hdC p.head) := by
  have l1 := hdC_length H.wide.1
  have l2 := sgC_length p.sg
  have hc : ∀ j, W.cell? ⟨m, j, none⟩ = (pcC p g l.length c)[j]? := fun j => by rw [cell_of_row W m j _ _ _ H.box, List.getElem?_toArray]
  have hl : ∀ j, j < 39 → W.cell? ⟨m, j, none⟩ = (hdC p.head)[j]? := fun j hj => by
    rw [hc, pcC, List.getElem?_append_left (by rw [pkC_length H.wide]; omega), pkC, List.getElem?_append_left (by omega)]
  have hs : ∀ j, j < 6 → W.cell? ⟨m, 39 + j, none⟩ = (sgC p.sg)[j]? := fun j hj => by
    rw [hc, pcC, List.getElem?_append_left (by rw [pkC_length H.wide]; omega), pkC, List.getElem?_append_right (by omega), l1, Nat.add_sub_cancel_left, List.getElem?_append_left (by omega)]
  refine ⟨⟨?_, ?_, ?_, ?_⟩, ⟨?_, ?_⟩, ?_⟩
  · rw [hc, pcC, List.getElem?_append_right (by rw [pkC_length H.wide]; exact Nat.le_refl _), pkC_length H.wide]; rfl
  · rw [hl 0 (by omega)]; rfl
  · rw [hl 1 (by omega)]; rfl
  · rw [hl 2 (by omega)]; rfl
  · rw [hs 3 (by omega)]; rfl
  · rw [hs 4 (by omega)]; rfl
  · intro j u hu
    rw [Nat.zero_add, hl j (by have := (List.getElem?_eq_some_iff.1 hu).1; omega)]
    exact hu
end
theorem exec_copy {P : Program} {w : World} {ρ : Operand → Value} {o : Oper} {t t' : TypeId} {x y : Operand} (ho : o.op = .call { callee := .builtin .copy, args := #[x, y], argTypes := #[t, t'] }) {u v r : Value} (hx : ρ x = u) (hy : ρ y = v) {w' : World}
    (hrun : (Builtin.copy_ #[t, t'] o.type #[u, v]).run P w = .ok r w') : (execOp ρ o).run P w = .ok (.value r) w' := by
  unfold execOp
  simp only [ho, resolve, invoke, builtin, Sem.run_bind, Sem.run_pure, Result.andThen_ok, List.map_toArray, List.map_cons, List.map_nil, hx, hy, hrun]
/-- Bytes, laid over the packet's. -/
theorem NtAt.copy {w W : World} {m g c : Nat} {p : Pk} {l x : List UInt8} (H : NtAt w W m g c p l) {A : Option Addr} {c' B k : Nat} (hx : Rd W B (.slice A x.length c') (cellsB x)) (hk : k + x.length ≤ l.length) (hx0 : 0 < x.length) (ty : TypeId) :
    ∃ W', (Builtin.copy_ #[22, 22] ty #[.slice (some ⟨g, k, none⟩) (l.length - k) (c - k), .slice A x.length c']).run Try.prog W = .ok (goInt x.length) W' ∧ NtAt w W' m g c p (layB l k x) ∧ W.grownBy W' (some g) := by
  obtain ⟨sp, hr⟩ := H.row
  obtain ⟨b, o, rfl, hb, hc⟩ := hx.addr hx0
  have hl : (cellsB x).length = x.length := cellsB_length x
  have hll : (cellsB l).length = l.length := cellsB_length l
  have hrun := run_copy_row (P := Try.prog) W 22 22 ty 5 g k (l.length - k) (c - k) ⟨b, o, none⟩ x.length c' (cellsB l ++ sp).toArray 5 (cellsB x) Try.underlying22 (by kernel_rfl) hr (by rw [hl]; exact (Nat.min_eq_left (by omega)).symm)
    (fun j v hv => by
      have hj := (List.getElem?_eq_some_iff.1 hv).1
      rw [Addr.add_lit, hc j (by omega), ← hv, cellsB_at x j (by omega)])
    (by simp [hl, hll]; omega) (cellsB_one x)
  rw [hl] at hrun
  have hlay := layB_length hk
  have hgr : W.grownBy (W.setRow g ((cellsB l ++ sp).take k ++ cellsB x ++ (cellsB l ++ sp).drop (k + x.length)).toArray) (some g) := ⟨rfl, rfl, rfl, by simp, fun k' hk' hne => setRow_other W g k' _ (fun e => hne (by rw [e]))⟩
  refine ⟨_, hrun, ⟨?_, ⟨sp, ?_⟩, by rw [hlay]; exact H.few, H.ne, H.own, H.wide, grown_below H.below hgr H.own.2⟩, hgr⟩
  · rw [hlay]
    exact (hgr.block _ H.lt.1 (fun e => H.ne (by cases e; rfl))).trans H.box
  · have := setRow_heap W g (cellsB l ++ sp).toArray ((cellsB l ++ sp).take k ++ cellsB x ++ (cellsB l ++ sp).drop (k + x.length)).toArray _ (0, 0) hr
    rw [this]
    congr 3
    unfold layB
    rw [List.take_append_of_le_length (by omega), List.drop_append_of_le_length (by omega), cellsB_append, cellsB_append, cellsB_take, cellsB_drop]
    simp only [List.append_assoc]
theorem cut_at (g n c k : Nat) (h1 : k ≤ n) (h2 : c ≠ k) (W : World) : (Instr.sliceAt 22 (.slice (some ⟨g, 0, none⟩) n c) (some (.int .i64 (k : Int))) none none).run Try.prog W = .ok (.slice (some ⟨g, k, none⟩) (n - k) (c - k)) W := by
  obtain ⟨A', hA', h⟩ := cut_l (P := Try.prog) (t := 22) Try.underlying22 (i := _) (e := 5) rfl rfl (some ⟨g, 0, none⟩) n c k h1 (k : Int) rfl
  rw [h W, hA', if_neg h2]
  simp [Addr.add_lit]
set_option maxRecDepth 100000 in
set_option maxHeartbeats 1000000 in
theorem ntPut_any {w W : World} {m g c : Nat} {p : Pk} {l : List UInt8} (H : NtAt w W m g c p l) (k n : Nat) (hk : k + 2 ≤ l.length) (hn : n < 65536) :
    Calls Try.prog 27 #[.pointer (some ⟨m, 0, none⟩), .int .i64 (k : Int), .int .u16 (n : Int)] W fun e w' => e = .returned (.tuple #[]) ∧ NtAt w w' m g c p (layB l k (be 2 n)) := by
  have hcut := cut_at g l.length c k (by omega) (by have := H.few; omega)
  have hu : IntKind.u64.wrap (n : Int) = (n : Int) := IntWalk.u64_in _ (by omega)
  have hP : Hid (∀ X, Below W.heap.size W X → Calls Try.prog 46 #[.slice none 0 0, .int .u64 (n : Int), .int .i64 2] X fun e w' => ∃ A q cc, e = .returned (.slice A q cc) ∧ NtAt w w' m g c p l ∧ ∃ W2, (Builtin.copy_ #[22, 22] 3 #[.slice (some ⟨g, k, none⟩) (l.length - k) (c - k), .slice A q cc]).run Try.prog w' = .ok (goInt 2) W2 ∧ NtAt w W2 m g c p (layB l k (be 2 n))) := Lib.hid fun X hX => by
    have h := put_yes none 0 [] n 2 X X.heap.size (Rd.nil X X.heap.size) (Nat.le_refl _) (by simp) (by omega) (by omega)
    refine h.mono ?_
    rintro e w' ⟨v, rfl, hv, hb⟩
    obtain ⟨A, cc, rfl, _, _, hr⟩ := hv.rd.bytes
    rw [List.nil_append] at hr
    have H2 := (H.next hX).next hb
    obtain ⟨W2, r1, r2, _⟩ := H2.copy hr (k := k) (by rw [be_length]; exact hk) (by rw [be_length]; omega) 3
    rw [be_length] at r1
    exact ⟨A, _, cc, rfl, H2, W2, r1, r2⟩
  have hL : Hid (∀ w' l', NtAt w w' m g c p l' → l'.length = l.length → w'.cell? ⟨m, 82, none⟩ = some (.slice (some ⟨g, 0, none⟩) l.length c)) := Lib.hid fun w' l' h e => by rw [← e]; exact h.looks.1.1
  have c82 := hL.out W l H rfl
  have hL1 := Lib.hid (fun w' h => hL.out w' l h rfl)
  have hL2 := Lib.hid (fun w' h => hL.out w' (layB l k (be 2 n)) h (layB_length (x := be 2 n) (b := l) (k := k) (by rw [be_length]; exact hk)))
  clear hL
  have HH := Lib.hid H
  clear H hk hn
  generalize layB l k (be 2 n) = l2 at *
  generalize l.length - k = n2 at *
  generalize c - k = c2 at *
  generalize l.length = n1 at *
  go_enter Try.func27, Try.ntmps27
  go_wp2_with fail
  refine wp_region_held_drew (S := fun w' => w'.cell? ⟨m, 82, none⟩ = some (.slice (some ⟨g, 0, none⟩) n1 c)) (by kernel_rfl) c82 (fun hHeld => ?_)
  refine th 0 ?_
  go_frame
  refine th 1 ?_
  go_frame
  refine th 2 ?_
  go_frame
  refine th 3 (v := .slice (some ⟨g, 0, none⟩) n1 c) ?_ (hy := fun wy hSw => by (go_simp <;> with_reducible rfl))
  go_frame
  refine th 4 ?_
  go_frame
  refine th 5 ?_
  go_frame
  refine th 6 ?_
  go_frame
  refine th 7 (v := .int .u64 (n : Int)) ?_ (hy := fun wy hSw => by (go_simp <;> with_reducible rfl))
  go_frame
  refine wpAnyH_ready (rs := [8]) (by kernel_rfl) (by simp) (AllReadyH.cons (o := ⟨some 14, .call { callee := .value (.func 46), args := #[.const (.slice none 0 0), .tmp 13, .const (.int .i64 2)], argTypes := #[22, 63, 3] }, _, _, _, none⟩) rfl (fun K hK => ?_) AllReadyH.nil)
  rw [if_pos (by kernel_rfl)]
  go_simp
  refine (hP.out _ (drew_self W)).mono ?_
  rintro _ w1 ⟨A1, q1, cc1, rfl, H1, W2, hrun, H2⟩
  have HT := Lib.hid H2
  have s1 := hL1.out _ H1
  clear H1
  dsimp only
  refine hK.out _ _ s1 (fun _ => ?_)
  clear hK K
  try go_frame
  refine wpAnyH_ready (rs := [9]) (by kernel_rfl) (by simp) (AllReadyH.cons (o := ⟨some 15, .call { callee := .builtin .copy, args := #[.tmp 11, .tmp 14], argTypes := #[22, 22] }, _, _, _, none⟩) rfl (fun K hK => ?_) AllReadyH.nil)
  rw [if_pos (by kernel_rfl)]
  refine wp_run (goInt 2) W2 (exec_copy rfl (u := .slice (some ⟨g, k, none⟩) n2 c2) rfl (v := .slice A1 q1 cc1) rfl hrun) ?_
  have s2 := hL2.out _ HT.out
  refine hK.out _ _ s2 (fun _ => ?_)
  clear hK K
  try go_frame
  refine wpAnyH_done (by kernel_rfl) ?_ _
  go_wp2_with fail
  go_end0
  exact ⟨rfl, HT.out⟩
theorem ntPut_as {w W : World} {m g c : Nat} {p : Pk} {l : List UInt8} (H : NtAt w W m g c p l) {k n : Nat} {kk nn : Int} (hkk : kk = (k : Int)) (hnn : nn = (n : Int)) (hk : k + 2 ≤ l.length) (hn : n < 65536) :
    Calls Try.prog 27 #[.pointer (some ⟨m, 0, none⟩), .int .i64 kk, .int .u16 nn] W fun e w' => e = .returned (.tuple #[]) ∧ NtAt w w' m g c p (layB l k (be 2 n)) := by
  subst hkk hnn
  exact ntPut_any H k n hk hn
set_option maxRecDepth 100000 in
set_option maxHeartbeats 1000000 in
theorem ntSumHead_any {w W : World} {m g c : Nat} {p : Pk} {l : List UInt8} (H : NtAt w W m g c p l) (pos : Nat) (hp : p.head.pos = (pos : Int)) (h12 : 12 ≤ pos ∧ pos ≤ l.length) (hl : l.length ≤ 100000) :
    Calls Try.prog 28 #[.pointer (some ⟨m, 0, none⟩)] W fun e w' => e = .returned (.tuple #[]) ∧ NtAt w w' m g c p (ntC l p.head.six pos) := by
  have c0 := H.looks.1.2.1
  cases h6 : p.head.six with
  | true =>
    rw [h6] at c0
    have HH := Lib.hid H
    clear H hp h12 hl
    go_enter Try.func28, Try.ntmps28
    go_wp2_with fail
    refine bodyPost_ret (results_none rfl _ _ _) rfl ?_
    exact ⟨rfl, HH.out⟩
  | false =>
    rw [h6] at c0
    obtain ⟨l1, hl1⟩ : ∃ l1, l1 = layB l 10 (be 2 0) := ⟨_, rfl⟩
    have ll1 : l1.length = l.length := by rw [hl1]; exact layB_length (by rw [be_length]; omega)
    obtain ⟨s, hs⟩ : ∃ s, s = sumOf (l1.take pos) := ⟨_, rfl⟩
    have hs16 : s < 65536 := by rw [hs]; have := sumOf_le (l1.take pos); omega
    have hC : ntC l false pos = layB l1 10 (be 2 s) := by unfold ntC; rw [if_neg (by decide), ← hl1, ← hs]
    rw [hC]
    have h1 := Lib.hid (ntPut_as H (k := 10) (n := 0) (kk := 10) (nn := 0) rfl rfl (by omega) (by omega))
    rw [← hl1] at h1
    have hk := H.few
    have hcut := cut_h (P := Try.prog) (t := 22) Try.underlying22 (i := _) (e := 5) rfl rfl (some ⟨g, 0, none⟩) l.length c pos (by omega) (pos : Int) rfl
    have hlook : Hid (∀ X, NtAt w X m g c p l1 → X.cell? ⟨m, 82, none⟩ = some (.slice (some ⟨g, 0, none⟩) l.length c) ∧ X.cell? ⟨m, 2, none⟩ = some (.int .i64 (pos : Int))) := Lib.hid fun X h => ⟨by rw [← ll1]; exact h.looks.1.1, by rw [← hp]; exact h.looks.1.2.2.2⟩
    have hsum : Hid (∀ X, NtAt w X m g c p l1 → Calls Try.prog 47 #[.slice (some ⟨X.heap.size, 0, none⟩) 1 1] (X.alloc (.cells #[.slice (some ⟨g, 0, none⟩) pos c] 22)) fun e w' => e = .returned (.int .u16 (s : Int)) ∧ NtAt w w' m g c p l1) := Lib.hid fun X h => by
      have hr := h.rd
      have h2 := hr.upto (hi := pos) (by rw [ll1]; omega)
      rw [cellsB_take] at h2
      refine (inSum_any (RdAll.lit1 X 22 _ _ h2) (by simp [ll1]; omega)).mono ?_
      rintro e w' ⟨rfl, rfl⟩
      rw [show [l1.take pos].flatten = l1.take pos by simp, ← hs]
      exact ⟨rfl, h.next (up_alloc (Below.refl _ _) _)⟩
    have hput : Hid (∀ X, NtAt w X m g c p l1 → Calls Try.prog 27 #[.pointer (some ⟨m, 0, none⟩), .int .i64 10, .int .u16 (s : Int)] X fun e w' => e = .returned (.tuple #[]) ∧ NtAt w w' m g c p (layB l1 10 (be 2 s))) := Lib.hid fun X h => ntPut_as h rfl rfl (by omega) hs16
    have hlook2 : Hid (∀ X, NtAt w X m g c p (layB l1 10 (be 2 s)) → X.cell? ⟨m, 82, none⟩ = some (.slice (some ⟨g, 0, none⟩) l.length c) ∧ X.cell? ⟨m, 2, none⟩ = some (.int .i64 (pos : Int))) := Lib.hid fun X h => ⟨by rw [← ll1, ← layB_length (b := l1) (k := 10) (x := be 2 s) (by rw [be_length]; omega)]; exact h.looks.1.1, by rw [← hp]; exact h.looks.1.2.2.2⟩
    clear H hp h12 hl hl1 hs hs16 hC hk ll1
    generalize layB l1 10 (be 2 s) = l2 at *
    generalize l.length = n1 at *
    go_enter Try.func28, Try.ntmps28
    go_wp2_with (go_at_call 27; refine h1.out.mono ?_; rintro _ w1 ⟨rfl, H1⟩; have HN := Lib.hid H1; clear H1)
    have hS := hlook.out _ HN.out
    refine wp_region_held_drew (S := fun w' => w'.cell? ⟨m, 82, none⟩ = some (.slice (some ⟨g, 0, none⟩) n1 c) ∧ w'.cell? ⟨m, 2, none⟩ = some (.int .i64 (pos : Int))) (by kernel_rfl) hS (fun hHeld => ?_)
    refine th 0 ?_
    go_frame
    refine th 1 ?_
    go_frame
    refine th 2 ?_
    go_frame
    refine th 3 ?_
    go_frame
    refine th 4 (v := .slice (some ⟨g, 0, none⟩) n1 c) ?_ (hy := fun wy hSw => by (obtain ⟨s1, s2⟩ := hSw; go_simp <;> with_reducible rfl))
    go_frame
    refine th 5 ?_
    go_frame
    refine th 6 ?_
    go_frame
    refine th 7 ?_
    go_frame
    refine th 8 ?_
    go_frame
    refine th 9 ?_
    go_frame
    refine th 10 (v := .int .i64 (pos : Int)) ?_ (hy := fun wy hSw => by (obtain ⟨s1, s2⟩ := hSw; go_simp <;> with_reducible rfl))
    go_frame
    refine th 11 (v := .slice (some ⟨g, 0, none⟩) pos c) ?_ (hy := fun wy hSw => by (go_simp <;> with_reducible rfl))
    go_frame
    refine wpAnyH_ready (rs := [12]) (by kernel_rfl) (by simp) (AllReadyH.cons (o := ⟨some 22, .buildSlice 74 1 #[(0, .tmp 21)], _, _, _, none⟩) rfl (fun K hK => ?_) AllReadyH.nil)
    rw [if_pos (by kernel_rfl)]
    go_simp
    have HD := Lib.hid (HN.out.next (drew_self _))
    refine hK.out _ _ (hlook.out _ (HD.out.next (up_alloc (Below.refl _ _) _))) (fun _ => ?_)
    clear hK K
    try go_frame
    refine wpAnyH_ready (rs := [13]) (by kernel_rfl) (by simp) (AllReadyH.cons (o := ⟨some 23, .call { callee := .value (.func 47), args := #[.tmp 22], argTypes := #[74] }, _, _, _, none⟩) rfl (fun K hK => ?_) AllReadyH.nil)
    rw [if_pos (by kernel_rfl)]
    go_simp
    refine (hsum.out _ HD.out).mono ?_
    rintro _ w2 ⟨rfl, H2⟩
    replace HN := Lib.hid H2
    clear H2 HD
    dsimp only
    refine hK.out _ _ (hlook.out _ HN.out) (fun _ => ?_)
    clear hK K
    try go_frame
    refine wpAnyH_ready (rs := [14]) (by kernel_rfl) (by simp) (AllReadyH.cons (o := ⟨some 24, .call { callee := .value (.func 27), args := #[.tmp 10, .const (.int .i64 10), .tmp 23], argTypes := #[75, 3, 26] }, _, _, _, none⟩) rfl (fun K hK => ?_) AllReadyH.nil)
    rw [if_pos (by kernel_rfl)]
    go_simp
    refine (hput.out _ HN.out).mono ?_
    rintro _ w3 ⟨rfl, H3⟩
    have HT := Lib.hid H3
    have ll2 := hlook2.out _ H3
    clear H3
    dsimp only
    refine hK.out _ _ ll2 (fun _ => ?_)
    clear hK K
    try go_frame
    refine wpAnyH_done (by kernel_rfl) ?_ _
    go_wp2_with fail
    go_end0
    exact ⟨rfl, HT.out⟩
set_option maxRecDepth 100000 in
set_option maxHeartbeats 1000000 in
theorem ntSumSeg_any {w W : World} {m g c : Nat} {p : Pk} {l : List UInt8} (H : NtAt w W m g c p l) (pos k : Nat) (hp : p.head.pos = (pos : Int)) (hsa : p.sg.sumAt = ((k - pos : Nat) : Int)) (hk : pos ≤ k ∧ k + 2 ≤ l.length) (hl : l.length ≤ 100000) :
    Calls Try.prog 29 #[.pointer (some ⟨m, 0, none⟩)] W fun e w' => e = .returned (.tuple #[]) ∧ NtAt w w' m g c p (ntD l p.head pos k p.sg.zero) := by
  have c43 := H.looks.2.1.2
  cases hz : p.sg.zero with
  | true =>
    rw [hz] at c43
    have HH := Lib.hid H
    clear H hp hsa hk hl
    go_enter Try.func29, Try.ntmps29
    go_wp2_with fail
    refine bodyPost_ret (results_none rfl _ _ _) rfl ?_
    exact ⟨rfl, HH.out⟩
  | false =>
    rw [hz] at c43
    have hf := H.few
    have hw := H.wide.1
    obtain ⟨l1, hl1⟩ : ∃ l1, l1 = layB l k (be 2 0) := ⟨_, rfl⟩
    have ll1 : l1.length = l.length := by rw [hl1]; exact layB_length (by rw [be_length]; omega)
    obtain ⟨d, hd⟩ : ∃ d, d = l1.drop pos := ⟨_, rfl⟩
    have ld : d.length = l.length - pos := by rw [hd, List.length_drop, ll1]
    obtain ⟨P, hP⟩ : ∃ P, P = sgPseudo p.head d.length := ⟨_, rfl⟩
    have hPl := (sgPseudo_length hw d.length).2.1
    rw [← hP] at hPl
    obtain ⟨s, hs⟩ : ∃ s, s = sumOf (P ++ d) := ⟨_, rfl⟩
    have hs16 : s < 65536 := by rw [hs]; have := sumOf_le (P ++ d); omega
    have hC : ntD l p.head pos k false = layB l1 k (be 2 (ntS p.head d)) := by unfold ntD; rw [if_neg (by decide), ← hl1, ← hd]
    have hS : ntS p.head d = if s = 0 ∧ p.head.proto = 17 then 65535 else s := by unfold ntS; rw [← hP, ← hs]
    have hn16 : ntS p.head d < 65536 := by have := ntS_le p.head d; omega
    rw [hC]
    have hkk : IntKind.i64.wrap ((pos : Int) + ((k - pos : Nat) : Int)) = (k : Int) := by rw [IntWalk.i64_in _ (by omega)]; omega
    have h1 : Hid (∀ X, NtAt w X m g c p l → Calls Try.prog 27 #[.pointer (some ⟨m, 0, none⟩), .int .i64 (k : Int), .int .u16 0] X fun e w' => e = .returned (.tuple #[]) ∧ NtAt w w' m g c p l1) := Lib.hid fun X h => by rw [hl1]; exact ntPut_as h rfl rfl (by omega) (by omega)
    have hput : Hid (∀ X nn, nn = ((ntS p.head d : Nat) : Int) → NtAt w X m g c p l1 → Calls Try.prog 27 #[.pointer (some ⟨m, 0, none⟩), .int .i64 (k : Int), .int .u16 nn] X fun e w' => e = .returned (.tuple #[]) ∧ NtAt w w' m g c p (layB l1 k (be 2 (ntS p.head d)))) := Lib.hid fun X nn hnn h => ntPut_as h rfl hnn (by omega) hn16
    have hcut := cut_at g l.length c pos (by omega) (by omega)
    have hlook : Hid (∀ X, NtAt w X m g c p l → X.cell? ⟨m, 82, none⟩ = some (.slice (some ⟨g, 0, none⟩) l.length c) ∧ X.cell? ⟨m, 2, none⟩ = some (.int .i64 (pos : Int)) ∧ X.cell? ⟨m, 42, none⟩ = some (.int .i64 ((k - pos : Nat) : Int))) := Lib.hid fun X h => ⟨h.looks.1.1, by rw [← hp]; exact h.looks.1.2.2.2, by rw [← hsa]; exact h.looks.2.1.1⟩
    have hlook1 : Hid (∀ X, NtAt w X m g c p l1 → X.rangeAt m 0 (hdC p.head) ∧ X.cell? ⟨m, 1, none⟩ = some (.int .u8 (p.head.proto.toNat : Int))) := Lib.hid fun X h => ⟨h.looks.2.2, h.looks.1.2.2.1⟩
    have hi := info_hd hw
    have hps : Hid (∀ X, NtAt w X m g c p l1 → Calls Try.prog 48 #[.agg (hdC p.head).toArray, .int .i64 ((l.length - pos : Nat) : Int)] X fun e w' => ∃ A n c', e = .returned (.slice A n c') ∧ NtAt w w' m g c p l1 ∧ Rd w' w'.heap.size (.slice A n c') (cellsB P)) := Lib.hid fun X h => by
      refine (sgPseudo_any p.head hw _ d.length (by rw [ld]; exact IntWalk.u64_in _ (by omega)) X).mono ?_
      rintro e w' ⟨v, rfl, hv, hb⟩
      obtain ⟨A, cc, rfl, _, _, hr⟩ := hv.rd.bytes
      rw [← hP] at hr ⊢
      exact ⟨A, _, cc, rfl, h.next hb, hr⟩
    have hsum : Hid (∀ X A n c', NtAt w X m g c p l1 → Rd X X.heap.size (.slice A n c') (cellsB P) → Calls Try.prog 47 #[.slice (some ⟨X.heap.size, 0, none⟩) 2 2] (X.alloc (.cells #[.slice A n c', .slice (some ⟨g, pos, none⟩) (l.length - pos) (c - pos)] 22)) fun e w' => e = .returned (.int .u16 (s : Int)) ∧ NtAt w w' m g c p l1) := Lib.hid fun X A n c' h hr => by
      have h2 := h.rd.cut (lo := pos) (hi := l.length) (by omega) (by rw [ll1]; exact Nat.le_refl _)
      rw [if_neg (by omega), List.take_of_length_le (by rw [cellsB_length, ll1]; exact Nat.le_refl _), cellsB_drop, ← hd] at h2
      have h3 : Rd X X.heap.size (.slice (some ⟨g, pos, none⟩) (l.length - pos) (c - pos)) (cellsB d) := by simpa [Addr.add_lit] using h2
      refine (inSum_any (RdAll.lit2 X 22 _ _ _ _ hr h3) (by simp; omega)).mono ?_
      rintro e w' ⟨rfl, rfl⟩
      rw [show [P, d].flatten = P ++ d by simp, ← hs]
      exact ⟨rfl, h.next (up_alloc (Below.refl _ _) _)⟩
    have HH := Lib.hid H
    have hq17 : ∀ q : UInt8, (((q.toNat : Nat) : Int) == 17) = decide (q = 17) := fun q => by
      by_cases e : q = 17
      · subst e; rfl
      · have : q.toNat ≠ 17 := fun e' => e (UInt8.toNat_inj.1 e')
        rw [decide_eq_false e]; simp; omega
    have k17 := hq17 p.head.proto
    have hkn : (pos : Int) ≤ (l.length : Int) := by omega
    clear H hp hsa hk hl hl1 hs hs16 hC hf ll1 hd ld hP hPl hq17 hw hn16
    generalize layB l1 k (be 2 (ntS p.head d)) = l2 at *
    generalize ntS p.head d = t at *
    generalize p.head.proto = q at *
    generalize hQQ : (q.toNat : Int) = qq at *
    generalize hdC p.head = CH at *
    generalize k - pos = kp at *
    generalize l.length - pos = np at *
    generalize c - pos = cp at *
    generalize l.length = n1 at *
    go_enter Try.func29, Try.ntmps29
    go_wp2_with fail
    have hS0 := hlook.out _ HH.out
    refine wp_region_held_drew (S := fun w' => w'.cell? ⟨m, 82, none⟩ = some (.slice (some ⟨g, 0, none⟩) n1 c) ∧ w'.cell? ⟨m, 2, none⟩ = some (.int .i64 (pos : Int)) ∧ w'.cell? ⟨m, 42, none⟩ = some (.int .i64 (kp : Int))) (by kernel_rfl) hS0 (fun hHeld => ?_)
    refine th 0 ?_
    go_frame
    refine th 1 ?_
    go_frame
    refine th 2 ?_
    go_frame
    refine th 3 ?_
    go_frame
    refine th 4 ?_
    go_frame
    refine th 5 (v := .int .i64 (pos : Int)) ?_ (hy := fun wy hSw => by (obtain ⟨s1, s2, s3⟩ := hSw; go_simp <;> with_reducible rfl))
    go_frame
    refine th 6 ?_
    go_frame
    refine th 7 ?_
    go_frame
    refine th 8 ?_
    go_frame
    refine th 9 ?_
    go_frame
    refine th 10 ?_
    go_frame
    refine th 11 (v := .int .i64 (kp : Int)) ?_ (hy := fun wy hSw => by (obtain ⟨s1, s2, s3⟩ := hSw; go_simp <;> with_reducible rfl))
    go_frame
    refine th 12 (v := .int .i64 (k : Int)) ?_ (hy := fun wy hSw => by (go_simp <;> with_reducible rfl))
    go_frame
    refine th 13 ?_
    go_frame
    refine th 14 ?_
    go_frame
    refine th 15 ?_
    go_frame
    refine th 16 (v := .slice (some ⟨g, 0, none⟩) n1 c) ?_ (hy := fun wy hSw => by (obtain ⟨s1, s2, s3⟩ := hSw; go_simp <;> with_reducible rfl))
    go_frame
    refine th 17 ?_
    go_frame
    refine th 18 ?_
    go_frame
    refine th 19 ?_
    go_frame
    refine th 20 ?_
    go_frame
    refine th 21 ?_
    go_frame
    refine th 22 (v := .int .i64 (pos : Int)) ?_ (hy := fun wy hSw => by (obtain ⟨s1, s2, s3⟩ := hSw; go_simp <;> with_reducible rfl))
    go_frame
    refine th 23 (v := .slice (some ⟨g, pos, none⟩) np cp) ?_ (hy := fun wy hSw => by (go_simp <;> with_reducible rfl))
    go_frame
    refine th 24 ?_
    go_frame
    refine th 25 ?_
    go_frame
    refine wpAnyH_done (by kernel_rfl) ?_ _
    have HD := Lib.hid (HH.out.next (drew_self W))
    clear HH
    by_cases hs0 : s = 0
    · have k0 : ((s : Int) == 0) = true := by subst hs0; rfl
      by_cases h17 : q = 17
      · rw [decide_eq_true h17] at k17
        have HE := Lib.hid (show (65535 : Int) = (t : Int) by rw [hS, if_pos ⟨hs0, h17⟩]; rfl)
        clear hS hs0 h17 hQQ
        go_wp2_with (first
          | (go_at_call 27; first | (refine (hput.out _ _ HE.out HN.out).mono ?_; rintro _ w4 ⟨rfl, H4⟩; have HT := Lib.hid H4; clear H4) | (refine (h1.out _ HD.out).mono ?_; rintro _ w1 ⟨rfl, H1⟩; obtain ⟨hrg, c1⟩ := hlook1.out _ H1; have HN := Lib.hid H1; clear H1))
          | ((with_reducible refine wpList_load_mid (op := ⟨some 42, .load 33 (.tmp 41), _, _, _, _⟩) rfl 33 (.tmp 41) rfl m 0 ?_ CH _ hrg Try.underlying33 rfl hi ?_); exact rfl)
          | (go_at_call 48; refine (hps.out _ HN.out).mono ?_; rintro _ w2 ⟨A2, n2, c2, rfl, H2, hr2⟩; replace HN := Lib.hid H2; have HR2 := Lib.hid hr2; clear H2 hr2 hrg c1)
          | (go_at_call 47; refine (hsum.out _ _ _ _ HN.out HR2.out).mono ?_; rintro _ w3 ⟨rfl, H3⟩; have c1 := (hlook1.out _ H3).2; replace HN := Lib.hid H3; clear H3 HR2))
        go_end0
        exact ⟨rfl, HT.out⟩
      · rw [decide_eq_false h17] at k17
        have HE := Lib.hid (show (s : Int) = (t : Int) by rw [hS, if_neg (fun z => h17 z.2)])
        clear hS hs0 h17 hQQ
        go_wp2_with (first
          | (go_at_call 27; first | (refine (hput.out _ _ HE.out HN.out).mono ?_; rintro _ w4 ⟨rfl, H4⟩; have HT := Lib.hid H4; clear H4) | (refine (h1.out _ HD.out).mono ?_; rintro _ w1 ⟨rfl, H1⟩; obtain ⟨hrg, c1⟩ := hlook1.out _ H1; have HN := Lib.hid H1; clear H1))
          | ((with_reducible refine wpList_load_mid (op := ⟨some 42, .load 33 (.tmp 41), _, _, _, _⟩) rfl 33 (.tmp 41) rfl m 0 ?_ CH _ hrg Try.underlying33 rfl hi ?_); exact rfl)
          | (go_at_call 48; refine (hps.out _ HN.out).mono ?_; rintro _ w2 ⟨A2, n2, c2, rfl, H2, hr2⟩; replace HN := Lib.hid H2; have HR2 := Lib.hid hr2; clear H2 hr2 hrg c1)
          | (go_at_call 47; refine (hsum.out _ _ _ _ HN.out HR2.out).mono ?_; rintro _ w3 ⟨rfl, H3⟩; have c1 := (hlook1.out _ H3).2; replace HN := Lib.hid H3; clear H3 HR2))
        go_end0
        exact ⟨rfl, HT.out⟩
    · have k0 := beq_zero hs0
      have HE := Lib.hid (show (s : Int) = (t : Int) by rw [hS, if_neg (fun z => hs0 z.1)])
      clear hS hs0 hQQ k17
      go_wp2_with (first
        | (go_at_call 27; first | (refine (hput.out _ _ HE.out HN.out).mono ?_; rintro _ w4 ⟨rfl, H4⟩; have HT := Lib.hid H4; clear H4) | (refine (h1.out _ HD.out).mono ?_; rintro _ w1 ⟨rfl, H1⟩; obtain ⟨hrg, c1⟩ := hlook1.out _ H1; have HN := Lib.hid H1; clear H1))
        | ((with_reducible refine wpList_load_mid (op := ⟨some 42, .load 33 (.tmp 41), _, _, _, _⟩) rfl 33 (.tmp 41) rfl m 0 ?_ CH _ hrg Try.underlying33 rfl hi ?_); exact rfl)
        | (go_at_call 48; refine (hps.out _ HN.out).mono ?_; rintro _ w2 ⟨A2, n2, c2, rfl, H2, hr2⟩; replace HN := Lib.hid H2; have HR2 := Lib.hid hr2; clear H2 hr2 hrg c1)
        | (go_at_call 47; refine (hsum.out _ _ _ _ HN.out HR2.out).mono ?_; rintro _ w3 ⟨rfl, H3⟩; have c1 := (hlook1.out _ H3).2; replace HN := Lib.hid H3; clear H3 HR2))
      go_end0
      exact ⟨rfl, HT.out⟩
def ntP (p : Pk) (which : Nat) (to : Ad) : Pk := ⟨ntHd p.head which to, p.sg, p.flow⟩
theorem ntP_wide {p : Pk} (hp : p.Wide) (which : Nat) {to : Ad} (tw : to.Wide) : (ntP p which to).Wide := by
  refine ⟨?_, hp.2⟩
  unfold ntP ntHd
  dsimp only
  split
  · exact ⟨hp.1.1, tw⟩
  · exact ⟨tw, hp.1.2⟩
theorem pcC_addr {p : Pk} (hp : p.Wide) {to : Ad} (tw : to.Wide) (g n c : Nat) {which : Nat} (hw : which = 0 ∨ which = 1) : (pcC p g n c).take (3 + 17 * which) ++ adC to ++ (pcC p g n c).drop (3 + 17 * which + 17) = pcC (ntP p which to) g n c := by
  obtain ⟨⟨six, proto, pos, src, dst, part, hops⟩, sg, fl⟩ := p
  have l1 : (adC src).length = 17 := adC_length hp.1.1
  have l2 : (adC dst).length = 17 := adC_length hp.1.2
  have l3 := adC_length tw
  rcases hw with e | e
  · subst e
    unfold ntP ntHd pcC pkC hdC
    rw [if_neg (by omega)]
    simp only [Nat.mul_zero, Nat.add_zero, List.cons_append, List.append_assoc, List.take_succ_cons, List.take_zero, List.nil_append, List.drop_succ_cons, Nat.reduceAdd]
    rw [show (17 : Nat) = (adC src).length from l1.symm, List.drop_left]
  · subst e
    unfold ntP ntHd pcC pkC hdC
    rw [if_pos rfl]
    simp only [Nat.mul_one, List.cons_append, List.append_assoc, List.take_succ_cons, List.nil_append, List.drop_succ_cons, Nat.reduceAdd]
    rw [show (17 : Nat) = (adC src).length from l1.symm, List.take_left, show (34 : Nat) = (adC src).length + (adC dst).length by omega, ← List.drop_drop, List.drop_left, List.drop_left]
theorem NtAt.addr {w W : World} {m g c : Nat} {p : Pk} {l : List UInt8} (H : NtAt w W m g c p l) {to : Ad} (tw : to.Wide) {which : Nat} (hw : which = 0 ∨ which = 1) :
    ∃ W', (Instr.storeAt 25 (.pointer (some ⟨m, 3 + 17 * which, none⟩)) (.agg (adC to).toArray)).run Try.prog W = .ok () W' ∧ NtAt w W' m g c (ntP p which to) l ∧ W.grownBy W' (some m) := by
  obtain ⟨sp, hr⟩ := H.row
  have hl := pcC_length H.wide g l.length c
  obtain ⟨W', h1, h2, h3, h4⟩ := store_agg (P := Try.prog) H.box (ys := adC to) (adC_one to) (o := 3 + 17 * which) (by rw [hl, adC_length tw]; rcases hw with e | e <;> subst e <;> omega) (ty := 25) (info_ad tw)
  rw [adC_length tw, pcC_addr H.wide tw _ _ _ hw] at h2
  refine ⟨W', h1, ⟨h2, ⟨sp, (h3.block _ H.lt.2 (fun e => H.ne (by cases e; rfl))).trans hr⟩, H.few, H.ne, H.own, ntP_wide H.wide which tw, grown_below H.below h3 H.own.1⟩, h3⟩
set_option maxRecDepth 100000 in
set_option maxHeartbeats 1000000 in
theorem ntReaddress_0s {w W : World} {m g c : Nat} {p : Pk} {l : List UInt8} (H : NtAt w W m g c p l) {to : Ad} (tw : to.Wide) (h6 : p.head.six = true) (ho : to.own.length = 16) (ht : ntAt true 0 + to.own.length ≤ l.length) (hl : l.length ≤ 100000) :
    Calls Try.prog 26 #[.pointer (some ⟨m, 0, none⟩), .int .i64 0, .agg (adC to).toArray] W fun e w' => e = .returned (.tuple #[]) ∧ NtAt w w' m g c (ntP p 0 to) (layB l (ntAt true 0) to.own) := by
  obtain ⟨X, hX⟩ : ∃ X, X = W.alloc (.cells (adC to).toArray 25) := ⟨_, rfl⟩
  have hXs : X.heap.size = W.heap.size + 1 := by rw [hX]; simp
  have hb0 : X.heap[W.heap.size]? = some (.cells (adC to).toArray 25 (0, 0)) := by rw [hX]; exact heap_alloc_last W _
  have HX := H.next (W' := X) (by rw [hX]; exact up_alloc (Below.refl _ _) _)
  obtain ⟨X2, hst, H2, hgr⟩ := HX.addr tw (which := 0) (by omega)
  have hb2 : X2.heap[W.heap.size]? = some (.cells (adC to).toArray 25 (0, 0)) := (hgr.block _ (by omega) (fun e => by have := H.lt.1; cases e; omega)).trans hb0
  have c0 : X2.cell? ⟨m, 0, none⟩ = some (.bool true) := by
    rw [H2.looks.1.2.1]
    show some (Value.bool (ntHd p.head 0 to).six) = _
    rw [(ntHd_proto p.head 0 to).2.2.1, h6]
  have hi := info_adA tw
  have hf := H.few
  have hB : Hid (Calls Try.prog 45 #[.agg (adC to).toArray] X2 fun e w' => ∃ A c', e = .returned (.slice A 16 c') ∧ w'.cell? ⟨m, 82, none⟩ = some (.slice (some ⟨g, 0, none⟩) l.length c) ∧ ∃ W2, (Builtin.copy_ #[22, 22] 3 #[.slice (some ⟨g, ntAt true 0, none⟩) (l.length - ntAt true 0) (c - ntAt true 0), .slice A 16 c']).run Try.prog w' = .ok (goInt 16) W2 ∧ NtAt w W2 m g c (ntP p 0 to) (layB l (ntAt true 0) to.own)) := Lib.hid (by
    refine (adBytes_any to X2 tw).mono ?_
    rintro e w' ⟨v, rfl, hv, hb⟩
    obtain ⟨A, cc, rfl, _, _, hr⟩ := hv.rd.bytes
    have H3 := H2.next hb
    obtain ⟨W2, r1, r2, _⟩ := H3.copy hr (k := ntAt true 0) ht (by omega) 3
    rw [ho] at r1 ⊢
    exact ⟨A, cc, rfl, H3.looks.1.1, W2, r1, r2⟩)
  have hcut := cut_at g l.length c (ntAt true 0) (by omega) (by omega)
  have hat : ntAt true 0 = 8 := rfl
  have hcn : ¬ c = 8 := by rw [hat] at ht; omega
  have hln : (8 : Int) ≤ (l.length : Int) := by rw [hat] at ht; omega
  rw [hat] at hB hcut ⊢
  clear H HX H2 hgr hf ht hl h6 ho tw hXs hat
  generalize layB l 8 to.own = l2 at *
  generalize l.length = n1 at *
  generalize hC : adC to = C at *
  clear hC
  subst hX
  go_enter Try.func26, Try.ntmps26
  go_wp2_with (first
    | ((with_reducible refine wpList_load_row (o := ⟨some 31, .load 25 (.tmp 5), _, _, _, _⟩) rfl 25 (.tmp 5) rfl W.heap.size ?_ 25 C.toArray (0, 0) _ hb2 Try.underlying25 rfl hi ?_); exact rfl)
    | ((with_reducible refine wpList_load_row (o := ⟨some 12, .load 25 (.tmp 5), _, _, _, _⟩) rfl 25 (.tmp 5) rfl W.heap.size ?_ 25 C.toArray (0, 0) _ hb0 Try.underlying25 rfl hi ?_); exact rfl)
    | ((with_reducible refine wpList_stored (o := ⟨none, .store 25 (.tmp 16) (.tmp 12), _, _, _, none⟩) rfl 25 (.tmp 16) (.tmp 12) rfl (.pointer (some ⟨m, 3, none⟩)) (.agg C.toArray) ?_ ?_ X2 hst ?_); exact rfl; exact rfl)
    | (go_at_call 45; refine hB.out.mono ?_; rintro _ w1 ⟨A1, cc1, rfl, c82, W2, hrun, H2⟩; have HT := Lib.hid H2; clear H2)
    | ((with_reducible refine wpList_run (o := ⟨some 45, .call { callee := .builtin .copy, args := #[.tmp 43, .tmp 44], argTypes := #[22, 22] }, _, _, _, none⟩) rfl (goInt 16) W2 (exec_copy rfl (u := .slice (some ⟨g, 8, none⟩) (n1 - 8) (c - 8)) rfl (v := .slice A1 16 cc1) rfl hrun) ?_)))
  go_end0
  exact ⟨rfl, HT.out⟩
set_option maxRecDepth 100000 in
set_option maxHeartbeats 1000000 in
theorem ntReaddress_0f {w W : World} {m g c : Nat} {p : Pk} {l : List UInt8} (H : NtAt w W m g c p l) {to : Ad} (tw : to.Wide) (h6 : p.head.six = false) (ho : to.own.length = 4) (ht : ntAt false 0 + to.own.length ≤ l.length) (hl : l.length ≤ 100000) :
    Calls Try.prog 26 #[.pointer (some ⟨m, 0, none⟩), .int .i64 0, .agg (adC to).toArray] W fun e w' => e = .returned (.tuple #[]) ∧ NtAt w w' m g c (ntP p 0 to) (layB l (ntAt false 0) to.own) := by
  obtain ⟨X, hX⟩ : ∃ X, X = W.alloc (.cells (adC to).toArray 25) := ⟨_, rfl⟩
  have hXs : X.heap.size = W.heap.size + 1 := by rw [hX]; simp
  have hb0 : X.heap[W.heap.size]? = some (.cells (adC to).toArray 25 (0, 0)) := by rw [hX]; exact heap_alloc_last W _
  have HX := H.next (W' := X) (by rw [hX]; exact up_alloc (Below.refl _ _) _)
  obtain ⟨X2, hst, H2, hgr⟩ := HX.addr tw (which := 0) (by omega)
  have hb2 : X2.heap[W.heap.size]? = some (.cells (adC to).toArray 25 (0, 0)) := (hgr.block _ (by omega) (fun e => by have := H.lt.1; cases e; omega)).trans hb0
  have c0 : X2.cell? ⟨m, 0, none⟩ = some (.bool false) := by
    rw [H2.looks.1.2.1]
    show some (Value.bool (ntHd p.head 0 to).six) = _
    rw [(ntHd_proto p.head 0 to).2.2.1, h6]
  have hi := info_adA tw
  have hf := H.few
  have hB : Hid (Calls Try.prog 45 #[.agg (adC to).toArray] X2 fun e w' => ∃ A c', e = .returned (.slice A 4 c') ∧ w'.cell? ⟨m, 82, none⟩ = some (.slice (some ⟨g, 0, none⟩) l.length c) ∧ ∃ W2, (Builtin.copy_ #[22, 22] 3 #[.slice (some ⟨g, ntAt false 0, none⟩) (l.length - ntAt false 0) (c - ntAt false 0), .slice A 4 c']).run Try.prog w' = .ok (goInt 4) W2 ∧ NtAt w W2 m g c (ntP p 0 to) (layB l (ntAt false 0) to.own)) := Lib.hid (by
    refine (adBytes_any to X2 tw).mono ?_
    rintro e w' ⟨v, rfl, hv, hb⟩
    obtain ⟨A, cc, rfl, _, _, hr⟩ := hv.rd.bytes
    have H3 := H2.next hb
    obtain ⟨W2, r1, r2, _⟩ := H3.copy hr (k := ntAt false 0) ht (by omega) 3
    rw [ho] at r1 ⊢
    exact ⟨A, cc, rfl, H3.looks.1.1, W2, r1, r2⟩)
  have hcut := cut_at g l.length c (ntAt false 0) (by omega) (by omega)
  have hat : ntAt false 0 = 12 := rfl
  have hcn : ¬ c = 12 := by rw [hat] at ht; omega
  have hln : (12 : Int) ≤ (l.length : Int) := by rw [hat] at ht; omega
  rw [hat] at hB hcut ⊢
  clear H HX H2 hgr hf ht hl h6 ho tw hXs hat
  generalize layB l 12 to.own = l2 at *
  generalize l.length = n1 at *
  generalize hC : adC to = C at *
  clear hC
  subst hX
  go_enter Try.func26, Try.ntmps26
  go_wp2_with (first
    | ((with_reducible refine wpList_load_row (o := ⟨some 31, .load 25 (.tmp 5), _, _, _, _⟩) rfl 25 (.tmp 5) rfl W.heap.size ?_ 25 C.toArray (0, 0) _ hb2 Try.underlying25 rfl hi ?_); exact rfl)
    | ((with_reducible refine wpList_load_row (o := ⟨some 12, .load 25 (.tmp 5), _, _, _, _⟩) rfl 25 (.tmp 5) rfl W.heap.size ?_ 25 C.toArray (0, 0) _ hb0 Try.underlying25 rfl hi ?_); exact rfl)
    | ((with_reducible refine wpList_stored (o := ⟨none, .store 25 (.tmp 16) (.tmp 12), _, _, _, none⟩) rfl 25 (.tmp 16) (.tmp 12) rfl (.pointer (some ⟨m, 3, none⟩)) (.agg C.toArray) ?_ ?_ X2 hst ?_); exact rfl; exact rfl)
    | (go_at_call 45; refine hB.out.mono ?_; rintro _ w1 ⟨A1, cc1, rfl, c82, W2, hrun, H2⟩; have HT := Lib.hid H2; clear H2)
    | ((with_reducible refine wpList_run (o := ⟨some 45, .call { callee := .builtin .copy, args := #[.tmp 43, .tmp 44], argTypes := #[22, 22] }, _, _, _, none⟩) rfl (goInt 4) W2 (exec_copy rfl (u := .slice (some ⟨g, 12, none⟩) (n1 - 12) (c - 12)) rfl (v := .slice A1 4 cc1) rfl hrun) ?_)))
  go_end0
  exact ⟨rfl, HT.out⟩
set_option maxRecDepth 100000 in
set_option maxHeartbeats 1000000 in
theorem ntReaddress_1s {w W : World} {m g c : Nat} {p : Pk} {l : List UInt8} (H : NtAt w W m g c p l) {to : Ad} (tw : to.Wide) (h6 : p.head.six = true) (ho : to.own.length = 16) (ht : ntAt true 1 + to.own.length ≤ l.length) (hl : l.length ≤ 100000) :
    Calls Try.prog 26 #[.pointer (some ⟨m, 0, none⟩), .int .i64 1, .agg (adC to).toArray] W fun e w' => e = .returned (.tuple #[]) ∧ NtAt w w' m g c (ntP p 1 to) (layB l (ntAt true 1) to.own) := by
  obtain ⟨X, hX⟩ : ∃ X, X = W.alloc (.cells (adC to).toArray 25) := ⟨_, rfl⟩
  have hXs : X.heap.size = W.heap.size + 1 := by rw [hX]; simp
  have hb0 : X.heap[W.heap.size]? = some (.cells (adC to).toArray 25 (0, 0)) := by rw [hX]; exact heap_alloc_last W _
  have HX := H.next (W' := X) (by rw [hX]; exact up_alloc (Below.refl _ _) _)
  obtain ⟨X2, hst, H2, hgr⟩ := HX.addr tw (which := 1) (by omega)
  have hb2 : X2.heap[W.heap.size]? = some (.cells (adC to).toArray 25 (0, 0)) := (hgr.block _ (by omega) (fun e => by have := H.lt.1; cases e; omega)).trans hb0
  have c0 : X2.cell? ⟨m, 0, none⟩ = some (.bool true) := by
    rw [H2.looks.1.2.1]
    show some (Value.bool (ntHd p.head 1 to).six) = _
    rw [(ntHd_proto p.head 1 to).2.2.1, h6]
  have hi := info_adA tw
  have hf := H.few
  have hB : Hid (Calls Try.prog 45 #[.agg (adC to).toArray] X2 fun e w' => ∃ A c', e = .returned (.slice A 16 c') ∧ w'.cell? ⟨m, 82, none⟩ = some (.slice (some ⟨g, 0, none⟩) l.length c) ∧ ∃ W2, (Builtin.copy_ #[22, 22] 3 #[.slice (some ⟨g, ntAt true 1, none⟩) (l.length - ntAt true 1) (c - ntAt true 1), .slice A 16 c']).run Try.prog w' = .ok (goInt 16) W2 ∧ NtAt w W2 m g c (ntP p 1 to) (layB l (ntAt true 1) to.own)) := Lib.hid (by
    refine (adBytes_any to X2 tw).mono ?_
    rintro e w' ⟨v, rfl, hv, hb⟩
    obtain ⟨A, cc, rfl, _, _, hr⟩ := hv.rd.bytes
    have H3 := H2.next hb
    obtain ⟨W2, r1, r2, _⟩ := H3.copy hr (k := ntAt true 1) ht (by omega) 3
    rw [ho] at r1 ⊢
    exact ⟨A, cc, rfl, H3.looks.1.1, W2, r1, r2⟩)
  have hcut := cut_at g l.length c (ntAt true 1) (by omega) (by omega)
  have hat : ntAt true 1 = 24 := rfl
  have hcn : ¬ c = 24 := by rw [hat] at ht; omega
  have hln : (24 : Int) ≤ (l.length : Int) := by rw [hat] at ht; omega
  rw [hat] at hB hcut ⊢
  clear H HX H2 hgr hf ht hl h6 ho tw hXs hat
  generalize layB l 24 to.own = l2 at *
  generalize l.length = n1 at *
  generalize hC : adC to = C at *
  clear hC
  subst hX
  go_enter Try.func26, Try.ntmps26
  go_wp2_with (first
    | ((with_reducible refine wpList_load_row (o := ⟨some 31, .load 25 (.tmp 5), _, _, _, _⟩) rfl 25 (.tmp 5) rfl W.heap.size ?_ 25 C.toArray (0, 0) _ hb2 Try.underlying25 rfl hi ?_); exact rfl)
    | ((with_reducible refine wpList_load_row (o := ⟨some 20, .load 25 (.tmp 5), _, _, _, _⟩) rfl 25 (.tmp 5) rfl W.heap.size ?_ 25 C.toArray (0, 0) _ hb0 Try.underlying25 rfl hi ?_); exact rfl)
    | ((with_reducible refine wpList_stored (o := ⟨none, .store 25 (.tmp 24) (.tmp 20), _, _, _, none⟩) rfl 25 (.tmp 24) (.tmp 20) rfl (.pointer (some ⟨m, 20, none⟩)) (.agg C.toArray) ?_ ?_ X2 hst ?_); exact rfl; exact rfl)
    | (go_at_call 45; refine hB.out.mono ?_; rintro _ w1 ⟨A1, cc1, rfl, c82, W2, hrun, H2⟩; have HT := Lib.hid H2; clear H2)
    | ((with_reducible refine wpList_run (o := ⟨some 45, .call { callee := .builtin .copy, args := #[.tmp 43, .tmp 44], argTypes := #[22, 22] }, _, _, _, none⟩) rfl (goInt 16) W2 (exec_copy rfl (u := .slice (some ⟨g, 24, none⟩) (n1 - 24) (c - 24)) rfl (v := .slice A1 16 cc1) rfl hrun) ?_)))
  go_end0
  exact ⟨rfl, HT.out⟩
set_option maxRecDepth 100000 in
set_option maxHeartbeats 1000000 in
theorem ntReaddress_1f {w W : World} {m g c : Nat} {p : Pk} {l : List UInt8} (H : NtAt w W m g c p l) {to : Ad} (tw : to.Wide) (h6 : p.head.six = false) (ho : to.own.length = 4) (ht : ntAt false 1 + to.own.length ≤ l.length) (hl : l.length ≤ 100000) :
    Calls Try.prog 26 #[.pointer (some ⟨m, 0, none⟩), .int .i64 1, .agg (adC to).toArray] W fun e w' => e = .returned (.tuple #[]) ∧ NtAt w w' m g c (ntP p 1 to) (layB l (ntAt false 1) to.own) := by
  obtain ⟨X, hX⟩ : ∃ X, X = W.alloc (.cells (adC to).toArray 25) := ⟨_, rfl⟩
  have hXs : X.heap.size = W.heap.size + 1 := by rw [hX]; simp
  have hb0 : X.heap[W.heap.size]? = some (.cells (adC to).toArray 25 (0, 0)) := by rw [hX]; exact heap_alloc_last W _
  have HX := H.next (W' := X) (by rw [hX]; exact up_alloc (Below.refl _ _) _)
  obtain ⟨X2, hst, H2, hgr⟩ := HX.addr tw (which := 1) (by omega)
  have hb2 : X2.heap[W.heap.size]? = some (.cells (adC to).toArray 25 (0, 0)) := (hgr.block _ (by omega) (fun e => by have := H.lt.1; cases e; omega)).trans hb0
  have c0 : X2.cell? ⟨m, 0, none⟩ = some (.bool false) := by
    rw [H2.looks.1.2.1]
    show some (Value.bool (ntHd p.head 1 to).six) = _
    rw [(ntHd_proto p.head 1 to).2.2.1, h6]
  have hi := info_adA tw
  have hf := H.few
  have hB : Hid (Calls Try.prog 45 #[.agg (adC to).toArray] X2 fun e w' => ∃ A c', e = .returned (.slice A 4 c') ∧ w'.cell? ⟨m, 82, none⟩ = some (.slice (some ⟨g, 0, none⟩) l.length c) ∧ ∃ W2, (Builtin.copy_ #[22, 22] 3 #[.slice (some ⟨g, ntAt false 1, none⟩) (l.length - ntAt false 1) (c - ntAt false 1), .slice A 4 c']).run Try.prog w' = .ok (goInt 4) W2 ∧ NtAt w W2 m g c (ntP p 1 to) (layB l (ntAt false 1) to.own)) := Lib.hid (by
    refine (adBytes_any to X2 tw).mono ?_
    rintro e w' ⟨v, rfl, hv, hb⟩
    obtain ⟨A, cc, rfl, _, _, hr⟩ := hv.rd.bytes
    have H3 := H2.next hb
    obtain ⟨W2, r1, r2, _⟩ := H3.copy hr (k := ntAt false 1) ht (by omega) 3
    rw [ho] at r1 ⊢
    exact ⟨A, cc, rfl, H3.looks.1.1, W2, r1, r2⟩)
  have hcut := cut_at g l.length c (ntAt false 1) (by omega) (by omega)
  have hat : ntAt false 1 = 16 := rfl
  have hcn : ¬ c = 16 := by rw [hat] at ht; omega
  have hln : (16 : Int) ≤ (l.length : Int) := by rw [hat] at ht; omega
  rw [hat] at hB hcut ⊢
  clear H HX H2 hgr hf ht hl h6 ho tw hXs hat
  generalize layB l 16 to.own = l2 at *
  generalize l.length = n1 at *
  generalize hC : adC to = C at *
  clear hC
  subst hX
  go_enter Try.func26, Try.ntmps26
  go_wp2_with (first
    | ((with_reducible refine wpList_load_row (o := ⟨some 31, .load 25 (.tmp 5), _, _, _, _⟩) rfl 25 (.tmp 5) rfl W.heap.size ?_ 25 C.toArray (0, 0) _ hb2 Try.underlying25 rfl hi ?_); exact rfl)
    | ((with_reducible refine wpList_load_row (o := ⟨some 20, .load 25 (.tmp 5), _, _, _, _⟩) rfl 25 (.tmp 5) rfl W.heap.size ?_ 25 C.toArray (0, 0) _ hb0 Try.underlying25 rfl hi ?_); exact rfl)
    | ((with_reducible refine wpList_stored (o := ⟨none, .store 25 (.tmp 24) (.tmp 20), _, _, _, none⟩) rfl 25 (.tmp 24) (.tmp 20) rfl (.pointer (some ⟨m, 20, none⟩)) (.agg C.toArray) ?_ ?_ X2 hst ?_); exact rfl; exact rfl)
    | (go_at_call 45; refine hB.out.mono ?_; rintro _ w1 ⟨A1, cc1, rfl, c82, W2, hrun, H2⟩; have HT := Lib.hid H2; clear H2)
    | ((with_reducible refine wpList_run (o := ⟨some 45, .call { callee := .builtin .copy, args := #[.tmp 43, .tmp 44], argTypes := #[22, 22] }, _, _, _, none⟩) rfl (goInt 4) W2 (exec_copy rfl (u := .slice (some ⟨g, 16, none⟩) (n1 - 16) (c - 16)) rfl (v := .slice A1 4 cc1) rfl hrun) ?_)))
  go_end0
  exact ⟨rfl, HT.out⟩
theorem ntReaddress_any {w W : World} {m g c : Nat} {p : Pk} {l : List UInt8} (H : NtAt w W m g c p l) {to : Ad} (tw : to.Wide) {which : Nat} (hw : which = 0 ∨ which = 1) {q : Int} (hq : q = (which : Int)) (ho : to.own.length = if p.head.six then 16 else 4) (ht : ntAt p.head.six which + to.own.length ≤ l.length) (hl : l.length ≤ 100000) :
    Calls Try.prog 26 #[.pointer (some ⟨m, 0, none⟩), .int .i64 q, .agg (adC to).toArray] W fun e w' => e = .returned (.tuple #[]) ∧ NtAt w w' m g c (ntP p which to) (layB l (ntAt p.head.six which) to.own) := by
  subst hq
  cases h6 : p.head.six with
  | true =>
    rw [h6] at ho ht
    rcases hw with e | e
    · subst e; exact ntReaddress_0s H tw h6 ho ht hl
    · subst e; exact ntReaddress_1s H tw h6 ho ht hl
  | false =>
    rw [h6] at ho ht
    rcases hw with e | e
    · subst e; exact ntReaddress_0f H tw h6 ho ht hl
    · subst e; exact ntReaddress_1f H tw h6 ho ht hl
end Go.Proofs.Ytejppekcniehpaa
