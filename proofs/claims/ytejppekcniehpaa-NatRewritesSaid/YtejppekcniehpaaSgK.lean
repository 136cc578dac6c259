/-
  Where the document's Read works: its four blocks.
-/
import Derived.Test.YtejppekcniehpaaSgJ
import Derived.Test.YtejppekcniehpaaSgE
namespace Go.Proofs.Ytejppekcniehpaa
open Go.RowKit
/-- The packet's head, what is told, the zero one, the one that is being filled. -/
structure RsAt (h : Hd) (w W : World) (s : Sg) : Prop where
  big : w.heap.size + 1 + 1 + 1 + 1 ≤ W.heap.size
  head : HdAt W w.heap.size h
  res : ∃ r, SgAt W (w.heap.size + 1) r
  zero : SgAt W (w.heap.size + 1 + 1) Sg.none
  cur : SgAt W (w.heap.size + 1 + 1 + 1) s
  below : Below w.heap.size w W
theorem RsAt.next {h : Hd} {w W W' : World} {s : Sg} (H : RsAt h w W s) (hb : Below W.heap.size W W') : RsAt h w W' s := by
  have hg := H.big
  have := hb.size
  obtain ⟨r, hr⟩ := H.res
  exact ⟨by omega, H.head.below hb (by omega), ⟨r, hr.below hb (by omega)⟩, H.zero.below hb (by omega), H.cur.below hb (by omega), up H.below hb⟩
theorem rs_other {W W' : World} {g k : Nat} (hgr : W.grownBy W' (some g)) (hk : k < W.heap.size) (hne : k ≠ g) : W'.heap[k]? = W.heap[k]? := hgr.block k hk (fun e => hne (by cases e; rfl))
theorem RsAt.put {h : Hd} {w W : World} {s : Sg} (H : RsAt h w W s) (y : Sg) : ∃ W', (storeCells ⟨w.heap.size + 1 + 1 + 1, 0, none⟩ (sgC y)).run Try.prog W = .ok () W' ∧ RsAt h w W' y := by
  obtain ⟨W', _, hat, hgr, hsz, hsc⟩ := store_sg (b := y) H.cur
  obtain ⟨r, hr⟩ := H.res
  have hb := H.big
  exact ⟨W', hsc, by omega, (rs_other hgr (by omega) (by omega)).trans H.head, ⟨r, (rs_other hgr (by omega) (by omega)).trans hr⟩, (rs_other hgr (by omega) (by omega)).trans H.zero, hat, grown_below H.below hgr (by omega)⟩
theorem RsAt.tell {h : Hd} {w W : World} {s : Sg} (H : RsAt h w W s) (y : Sg) : ∃ W', (storeCells ⟨w.heap.size + 1, 0, none⟩ (sgC y)).run Try.prog W = .ok () W' ∧ SgAt W' (w.heap.size + 1) y ∧ Below w.heap.size w W' := by
  obtain ⟨r, hr⟩ := H.res
  obtain ⟨W', _, hat, hgr, hsz, hsc⟩ := store_sg (b := y) hr
  exact ⟨W', hsc, hat, grown_below H.below hgr (Nat.le_succ _)⟩
theorem RsAt.set {h : Hd} {w W : World} {s t : Sg} {k : Nat} {u : Value} (H : RsAt h w W s) (e : (sgC s).toArray.setIfInBounds k u = (sgC t).toArray) : RsAt h w (W.setCell ⟨w.heap.size + 1 + 1 + 1, k, none⟩ u) t := by
  obtain ⟨r, hr⟩ := H.res
  have hb := H.big
  have ho : ∀ j, j ≠ w.heap.size + 1 + 1 + 1 → (W.setCell ⟨w.heap.size + 1 + 1 + 1, k, none⟩ u).heap[j]? = W.heap[j]? := fun j hj => heap_setCell_other W _ j u hj
  refine ⟨by simp; omega, (ho _ (by omega)).trans H.head, ⟨r, (ho _ (by omega)).trans hr⟩, (ho _ (by omega)).trans H.zero, ?_, H.below.setCell (p := ⟨w.heap.size + 1 + 1 + 1, k, none⟩) (by simp; omega) _⟩
  have := heap_setCell_same W (w.heap.size + 1 + 1 + 1) k _ _ u H.cur
  rw [e] at this
  exact this
theorem RsAt.start (h : Hd) (w : World) : ∃ X1 X, (storeCells ⟨w.heap.size + 1 + 1, 0, none⟩ (sgC Sg.none)).run Try.prog ((((w.alloc (.cells (hdC h).toArray 33)).alloc (.cells (sgC Sg.none).toArray 35)).alloc (.cells (sgC Sg.none).toArray 35)).alloc (.cells (sgC Sg.none).toArray 35)) = .ok () X1 ∧ (storeCells ⟨w.heap.size + 1 + 1 + 1, 0, none⟩ (sgC Sg.none)).run Try.prog X1 = .ok () X ∧ RsAt h w X Sg.none := by
  obtain ⟨Z, hZ⟩ : ∃ Z : Obj, Z = .cells (sgC Sg.none).toArray 35 := ⟨_, rfl⟩
  obtain ⟨w1, hw1⟩ : ∃ w1, w1 = w.alloc (.cells (hdC h).toArray 33) := ⟨_, rfl⟩
  obtain ⟨w2, hw2⟩ : ∃ w2, w2 = w1.alloc Z := ⟨_, rfl⟩
  obtain ⟨w3, hw3⟩ : ∃ w3, w3 = w2.alloc Z := ⟨_, rfl⟩
  obtain ⟨w4, hw4⟩ : ∃ w4, w4 = w3.alloc Z := ⟨_, rfl⟩
  have s1 : w1.heap.size = w.heap.size + 1 := by rw [hw1]; simp
  have s2 : w2.heap.size = w.heap.size + 1 + 1 := by rw [hw2]; simp [s1]
  have s3 : w3.heap.size = w.heap.size + 1 + 1 + 1 := by rw [hw3]; simp [s2]
  have s4 : w4.heap.size = w.heap.size + 1 + 1 + 1 + 1 := by rw [hw4]; simp [s3]
  have b1 : Below w.heap.size w w1 := by rw [hw1]; exact up_alloc (Below.refl _ _) _
  have b2 : Below w.heap.size w w2 := by rw [hw2]; exact up_alloc b1 _
  have b3 : Below w.heap.size w w3 := by rw [hw3]; exact up_alloc b2 _
  have b4 : Below w.heap.size w w4 := by rw [hw4]; exact up_alloc b3 _
  have l1 : w1.heap[w.heap.size]? = some (.cells (hdC h).toArray 33 (0, 0)) := by rw [hw1]; exact heap_alloc_last w _
  have l2 : w2.heap[w.heap.size + 1]? = some (.cells (sgC Sg.none).toArray 35 (0, 0)) := by rw [hw2, hZ, ← s1]; exact heap_alloc_last w1 _
  have l3 : w3.heap[w.heap.size + 1 + 1]? = some (.cells (sgC Sg.none).toArray 35 (0, 0)) := by rw [hw3, hZ, ← s2]; exact heap_alloc_last w2 _
  have l4 : w4.heap[w.heap.size + 1 + 1 + 1]? = some (.cells (sgC Sg.none).toArray 35 (0, 0)) := by rw [hw4, hZ, ← s3]; exact heap_alloc_last w3 _
  have o2 : ∀ k, k < w1.heap.size → w2.heap[k]? = w1.heap[k]? := fun k hk => by rw [hw2]; exact heap_alloc_old _ _ hk
  have o3 : ∀ k, k < w2.heap.size → w3.heap[k]? = w2.heap[k]? := fun k hk => by rw [hw3]; exact heap_alloc_old _ _ hk
  have o4 : ∀ k, k < w3.heap.size → w4.heap[k]? = w3.heap[k]? := fun k hk => by rw [hw4]; exact heap_alloc_old _ _ hk
  have H4 : RsAt h w w4 Sg.none := ⟨by omega, (o4 _ (by omega)).trans ((o3 _ (by omega)).trans ((o2 _ (by omega)).trans l1)), ⟨Sg.none, (o4 _ (by omega)).trans ((o3 _ (by omega)).trans l2)⟩, (o4 _ (by omega)).trans l3, l4, b4⟩
  obtain ⟨X1, _, hat, hgr, hsz, hsc⟩ := store_sg (b := Sg.none) H4.zero
  have H5 : RsAt h w X1 Sg.none := ⟨by omega, (rs_other hgr (by omega) (by omega)).trans H4.head, by obtain ⟨r, hr⟩ := H4.res; exact ⟨r, (rs_other hgr (by omega) (by omega)).trans hr⟩, hat, (rs_other hgr (by omega) (by omega)).trans H4.cur, grown_below H4.below hgr (by omega)⟩
  obtain ⟨X, hst, HX⟩ := H5.put Sg.none
  refine ⟨X1, X, ?_, hst, HX⟩
  rw [← hw1, ← hZ, ← hw2, ← hw3, ← hw4]
  exact hsc
/-- What is looked at. -/
theorem RsAt.looks {h : Hd} {w W : World} {s : Sg} (H : RsAt h w W s) : (W.heap[w.heap.size]? = some (.cells (hdC h).toArray 33 (0, 0)) ∧ W.rangeAt w.heap.size 0 (hdC h) ∧ W.cell? ⟨w.heap.size, 0, none⟩ = some (.bool h.six) ∧ W.cell? ⟨w.heap.size, 1, none⟩ = some (.int .u8 (h.proto.toNat : Int))) ∧
    (W.heap[w.heap.size + 1 + 1]? = some (.cells (sgC Sg.none).toArray 35 (0, 0)) ∧ W.heap[w.heap.size + 1 + 1 + 1]? = some (.cells (sgC s).toArray 35 (0, 0))) ∧
    (W.cell? ⟨w.heap.size + 1 + 1 + 1, 4, none⟩ = some (.bool s.zero) ∧ (∃ u, W.cell? ⟨w.heap.size + 1 + 1 + 1, 0, none⟩ = some (.int .u16 u)) ∧ (∃ u, W.cell? ⟨w.heap.size + 1 + 1 + 1, 1, none⟩ = some (.int .u16 u)) ∧ W.frozen? ⟨w.heap.size + 1 + 1 + 1, 0, none⟩ = false ∧ W.frozen? ⟨w.heap.size + 1 + 1 + 1, 1, none⟩ = false) := by
  obtain ⟨c0, c1, _, _, c4, _⟩ := sgC_cell H.cur
  exact ⟨⟨H.head, rangeAt_block H.head fun j u hu => by rw [Nat.zero_add]; exact hu, hdC_six H.head, hdC_proto H.head⟩, ⟨H.zero, H.cur⟩, c4, ⟨_, c0⟩, ⟨_, c1⟩, frozen_of_row W _ 0 _ _ H.cur, frozen_of_row W _ 1 _ _ H.cur⟩
theorem build_rsTcp (f : UInt8) (n : Int) (W : World) : (Instr.build 35 #[(2, .int .u8 (f.toNat : Int)), (3, .int .i64 16), (5, .int .i64 n)]).run Try.prog W = .ok (sgV ⟨0, 0, f, 16, false, n⟩) W := by
  kernel_rfl
theorem build_rsUdp (z : Bool) (W : World) : (Instr.build 35 #[(3, .int .i64 6), (5, .int .i64 8), (4, .bool z)]).run Try.prog W = .ok (sgV ⟨0, 0, 0, 6, z, 8⟩) W := by
  kernel_rfl
theorem exec_bldS3 {ρ : Operand → Value} {o : Oper} {t : TypeId} {k k2 k3 : Nat} {a a2 a3 : Operand} (ho : o.op = .build t #[(k, a), (k2, a2), (k3, a3)]) {u u2 u3 : Value} (ha : ρ a = u) (ha2 : ρ a2 = u2) (ha3 : ρ a3 = u3) {v : Value} {P : Program} {w : World} (hrun : (Instr.build t #[(k, u), (k2, u2), (k3, u3)]).run P w = .ok v w) : (execOp ρ o).run P w = .ok (.value v) w := by
  unfold execOp
  simp only [ho, List.map_toArray, List.map_cons, List.map_nil, ha, ha2, ha3, Sem.run_bind, hrun, Result.andThen_ok, Sem.run_pure]
theorem rsGet_any {A : Option Addr} {c : Nat} {l : List UInt8} {w : World} {B : Nat} (hr : Rd w B (.slice A l.length c) (cellsB l)) {a : Nat} {aa : Int} (ha : aa = (a : Int)) (h : a + 2 ≤ l.length) :
    Calls Try.prog 33 #[.slice A l.length c, .int .i64 aa, .int .i64 2] w fun e w' => e = .returned (.int .u64 ((num2 l a : Nat) : Int)) ∧ w = w' := by
  subst ha
  have := refGet_any A c l a 2 w B hr (by omega) (by omega) h
  rw [ofBe_two l a h] at this
  exact this
end Go.Proofs.Ytejppekcniehpaa
