/-
  A packet in a block, told another place field by field.
  Law 17: Same; a packet whose place is told anew, field by field.
  The walk of NatRewrites.
-/
import Derived.Test.YtejppekcniehpaaNtOut
import Derived.Test.YtejppekcniehpaaPkD
import Derived.Test.YtejppekcniehpaaNtI
import Derived.Test.YtejppekcniehpaaNtL
import Derived.Test.YtejppekcniehpaaAdOpenA
namespace Go.Proofs.Ytejppekcniehpaa
open Go.RowKit
theorem swap_mid {P M R X : List Value} {o n : Nat} (hP : P.length = o) (hM : M.length = n) : (P ++ (M ++ R)).take o ++ X ++ (P ++ (M ++ R)).drop (o + n) = P ++ (X ++ R) := by
  subst hP hM
  rw [List.take_left, ← List.drop_drop, List.drop_left, List.drop_left]
  simp only [List.append_assoc]
theorem store_one {P : Program} {w : World} {g : Nat} {t : TypeId} {cs : List Value} (hg : w.heap[g]? = some (.cells cs.toArray t (0, 0))) (k : IntKind) (x : Int) {o : Nat} (ho : o + 1 ≤ cs.length) {ty : TypeId} (hz : (P.info? ty).map (·.size) = some 1) :
    ∃ w', (Instr.storeAt ty (.pointer (some ⟨g, o, none⟩)) (.int k x)).run P w = .ok () w' ∧ w'.heap[g]? = some (.cells (cs.take o ++ [Value.int k x] ++ cs.drop (o + 1)).toArray t (0, 0)) ∧ w.grownBy w' (some g) := by
  have h := run_storeCells_at P g o t [Value.int k x] 0 cs.toArray w hg (by simp; omega) (by intro u hu; simp at hu; subst hu; rfl)
  cases hq : P.info? ty with
  | none => simp [hq] at hz
  | some i =>
    have hs : i.size = 1 := by simpa [hq] using hz
    simp only [Nat.add_zero, List.length_singleton] at h
    refine ⟨w.setRow g (cs.take o ++ [Value.int k x] ++ cs.drop (o + 1)).toArray, ?_, setRow_heap w g cs.toArray _ t (0, 0) hg, ⟨rfl, rfl, rfl, by simp, fun k hk hne => setRow_other w g k _ (fun e => hne (by rw [e]))⟩⟩
    simp only [Instr.storeAt, Instr.sureAddr, Sem.run_bind, Sem.run_pure, Result.andThen_ok, storeVar, sizeOf, typeInfo]
    simp [hq, Value.cells, hs, h]
section
variable {W : World} {g : Nat} {p q : Pk} {to : Ad}
theorem PkAt.swapA (H : PkAt W g p) (tw : to.Wide) {P M R : List Value} {o : Nat} (hP : P.length = o) (hM : M.length = 17) (e1 : pkC p = P ++ (M ++ R)) (e2 : pkC q = P ++ (adC to ++ R)) :
    ∃ W', (Instr.storeAt 25 (.pointer (some ⟨g, o, none⟩)) (.agg (adC to).toArray)).run Try.prog W = .ok () W' ∧ PkAt W' g q ∧ W.grownBy W' (some g) := by
  obtain ⟨W', h1, h2, h3, _⟩ := store_agg (P := Try.prog) H (ys := adC to) (adC_one to) (o := o) (by rw [e1, adC_length tw]; simp; omega) (ty := 25) (info_ad tw)
  rw [adC_length tw, e1, swap_mid hP hM, ← e2] at h2
  exact ⟨W', h1, h2, h3⟩
theorem PkAt.swapN (H : PkAt W g p) (n : Nat) {P R : List Value} {x : Value} {o : Nat} (hP : P.length = o) (e1 : pkC p = P ++ ([x] ++ R)) (e2 : pkC q = P ++ ([.int .u16 (n : Int)] ++ R)) :
    ∃ W', (Instr.storeAt 26 (.pointer (some ⟨g, o, none⟩)) (.int .u16 (n : Int))).run Try.prog W = .ok () W' ∧ PkAt W' g q ∧ W.grownBy W' (some g) := by
  obtain ⟨W', h1, h2, h3⟩ := store_one (P := Try.prog) H .u16 (n : Int) (o := o) (by rw [e1]; simp; omega) (ty := 26) (by kernel_rfl)
  rw [e1, swap_mid (M := [x]) (n := 1) hP rfl, ← e2] at h2
  exact ⟨W', h1, h2, h3⟩
/-- Sent to another place. -/
theorem PkAt.sent (H : PkAt W g p) (hp : p.Wide) (tw : to.Wide) (n : Nat) : ∃ W1 W2 W3 W4,
    ((Instr.storeAt 25 (.pointer (some ⟨g, 20, none⟩)) (.agg (adC to).toArray)).run Try.prog W = .ok () W1 ∧ W.grownBy W1 (some g)) ∧
    ((Instr.storeAt 25 (.pointer (some ⟨g, 62, none⟩)) (.agg (adC to).toArray)).run Try.prog W1 = .ok () W2 ∧ W1.grownBy W2 (some g)) ∧
    ((Instr.storeAt 26 (.pointer (some ⟨g, 80, none⟩)) (.int .u16 (n : Int))).run Try.prog W2 = .ok () W3 ∧ W2.grownBy W3 (some g)) ∧
    ((Instr.storeAt 26 (.pointer (some ⟨g, 40, none⟩)) (.int .u16 (n : Int))).run Try.prog W3 = .ok () W4 ∧ W3.grownBy W4 (some g)) ∧ PkAt W4 g (ntPk p 1 to n) := by
  obtain ⟨⟨six, proto, pos, src, dst, part, hops⟩, ⟨s1, s2, s3, s4, s5, s6⟩, ⟨fs, fd, sp, dp, pr⟩⟩ := p
  have a1 : (adC src).length = 17 := adC_length hp.1.1
  have a2 : (adC dst).length = 17 := adC_length hp.1.2
  have a3 : (adC fs).length = 17 := adC_length hp.2.1
  have a4 : (adC fd).length = 17 := adC_length hp.2.2.1
  have a5 := adC_length tw
  obtain ⟨W1, r1, H1, g1⟩ := H.swapA (q := ⟨⟨six, proto, pos, src, to, part, hops⟩, ⟨s1, s2, s3, s4, s5, s6⟩, ⟨fs, fd, sp, dp, pr⟩⟩) tw (P := [.bool six, .int .u8 (proto.toNat : Int), .int .i64 pos] ++ adC src) (M := adC dst) (R := [.bool part, .int .u8 (hops.toNat : Int)] ++ (sgC ⟨s1, s2, s3, s4, s5, s6⟩ ++ flC ⟨fs, fd, sp, dp, pr⟩)) (o := 20) (by simp [a1]) a2 (by simp [pkC, hdC]) (by simp [pkC, hdC])
  obtain ⟨W2, r2, H2, g2⟩ := H1.swapA (q := ⟨⟨six, proto, pos, src, to, part, hops⟩, ⟨s1, s2, s3, s4, s5, s6⟩, ⟨fs, to, sp, dp, pr⟩⟩) tw (P := hdC ⟨six, proto, pos, src, to, part, hops⟩ ++ (sgC ⟨s1, s2, s3, s4, s5, s6⟩ ++ adC fs)) (M := adC fd) (R := [.int .u16 (sp : Int), .int .u16 (dp : Int), .int .u8 (pr.toNat : Int)]) (o := 62) (by simp [hdC, a1, a5, sgC_length, a3]) a4 (by simp [pkC, flC]) (by simp [pkC, flC])
  obtain ⟨W3, r3, H3, g3⟩ := H2.swapN (q := ⟨⟨six, proto, pos, src, to, part, hops⟩, ⟨s1, s2, s3, s4, s5, s6⟩, ⟨fs, to, sp, n, pr⟩⟩) n (P := hdC ⟨six, proto, pos, src, to, part, hops⟩ ++ (sgC ⟨s1, s2, s3, s4, s5, s6⟩ ++ (adC fs ++ (adC to ++ [.int .u16 (sp : Int)])))) (R := [.int .u8 (pr.toNat : Int)]) (x := .int .u16 (dp : Int)) (o := 80) (by simp [hdC, a1, a5, sgC_length, a3]) (by simp [pkC, flC]) (by simp [pkC, flC])
  obtain ⟨W4, r4, H4, g4⟩ := H3.swapN (q := ⟨⟨six, proto, pos, src, to, part, hops⟩, ⟨s1, n, s3, s4, s5, s6⟩, ⟨fs, to, sp, n, pr⟩⟩) n (P := hdC ⟨six, proto, pos, src, to, part, hops⟩ ++ [.int .u16 (s1 : Int)]) (R := [.int .u8 (s3.toNat : Int), .int .i64 s4, .bool s5, .int .i64 s6] ++ flC ⟨fs, to, sp, n, pr⟩) (x := .int .u16 (s2 : Int)) (o := 40) (by simp [hdC, a1, a5]) (by simp [pkC, sgC]) (by simp [pkC, sgC])
  exact ⟨W1, W2, W3, W4, ⟨r1, g1⟩, ⟨r2, g2⟩, ⟨r3, g3⟩, ⟨r4, g4⟩, H4⟩
/-- Come from another place. -/
theorem PkAt.come (H : PkAt W g p) (hp : p.Wide) (tw : to.Wide) (n : Nat) : ∃ W1 W2 W3 W4,
    ((Instr.storeAt 25 (.pointer (some ⟨g, 3, none⟩)) (.agg (adC to).toArray)).run Try.prog W = .ok () W1 ∧ W.grownBy W1 (some g)) ∧
    ((Instr.storeAt 25 (.pointer (some ⟨g, 45, none⟩)) (.agg (adC to).toArray)).run Try.prog W1 = .ok () W2 ∧ W1.grownBy W2 (some g)) ∧
    ((Instr.storeAt 26 (.pointer (some ⟨g, 79, none⟩)) (.int .u16 (n : Int))).run Try.prog W2 = .ok () W3 ∧ W2.grownBy W3 (some g)) ∧
    ((Instr.storeAt 26 (.pointer (some ⟨g, 39, none⟩)) (.int .u16 (n : Int))).run Try.prog W3 = .ok () W4 ∧ W3.grownBy W4 (some g)) ∧ PkAt W4 g (ntPk p 0 to n) := by
  obtain ⟨⟨six, proto, pos, src, dst, part, hops⟩, ⟨s1, s2, s3, s4, s5, s6⟩, ⟨fs, fd, sp, dp, pr⟩⟩ := p
  have a1 : (adC src).length = 17 := adC_length hp.1.1
  have a2 : (adC dst).length = 17 := adC_length hp.1.2
  have a3 : (adC fs).length = 17 := adC_length hp.2.1
  have a4 : (adC fd).length = 17 := adC_length hp.2.2.1
  have a5 := adC_length tw
  obtain ⟨W1, r1, H1, g1⟩ := H.swapA (q := ⟨⟨six, proto, pos, to, dst, part, hops⟩, ⟨s1, s2, s3, s4, s5, s6⟩, ⟨fs, fd, sp, dp, pr⟩⟩) tw (P := [.bool six, .int .u8 (proto.toNat : Int), .int .i64 pos]) (M := adC src) (R := adC dst ++ ([.bool part, .int .u8 (hops.toNat : Int)] ++ (sgC ⟨s1, s2, s3, s4, s5, s6⟩ ++ flC ⟨fs, fd, sp, dp, pr⟩))) (o := 3) rfl a1 (by simp [pkC, hdC]) (by simp [pkC, hdC])
  obtain ⟨W2, r2, H2, g2⟩ := H1.swapA (q := ⟨⟨six, proto, pos, to, dst, part, hops⟩, ⟨s1, s2, s3, s4, s5, s6⟩, ⟨to, fd, sp, dp, pr⟩⟩) tw (P := hdC ⟨six, proto, pos, to, dst, part, hops⟩ ++ sgC ⟨s1, s2, s3, s4, s5, s6⟩) (M := adC fs) (R := adC fd ++ [.int .u16 (sp : Int), .int .u16 (dp : Int), .int .u8 (pr.toNat : Int)]) (o := 45) (by simp [hdC, a2, a5, sgC_length]) a3 (by simp [pkC, flC]) (by simp [pkC, flC])
  obtain ⟨W3, r3, H3, g3⟩ := H2.swapN (q := ⟨⟨six, proto, pos, to, dst, part, hops⟩, ⟨s1, s2, s3, s4, s5, s6⟩, ⟨to, fd, n, dp, pr⟩⟩) n (P := hdC ⟨six, proto, pos, to, dst, part, hops⟩ ++ (sgC ⟨s1, s2, s3, s4, s5, s6⟩ ++ (adC to ++ adC fd))) (R := [.int .u16 (dp : Int), .int .u8 (pr.toNat : Int)]) (x := .int .u16 (sp : Int)) (o := 79) (by simp [hdC, a2, a5, sgC_length, a4]) (by simp [pkC, flC]) (by simp [pkC, flC])
  obtain ⟨W4, r4, H4, g4⟩ := H3.swapN (q := ⟨⟨six, proto, pos, to, dst, part, hops⟩, ⟨n, s2, s3, s4, s5, s6⟩, ⟨to, fd, n, dp, pr⟩⟩) n (P := hdC ⟨six, proto, pos, to, dst, part, hops⟩) (R := [.int .u16 (s2 : Int), .int .u8 (s3.toNat : Int), .int .i64 s4, .bool s5, .int .i64 s6] ++ flC ⟨to, fd, n, dp, pr⟩) (x := .int .u16 (s1 : Int)) (o := 39) (by simp [hdC, a2, a5]) (by simp [pkC, sgC]) (by simp [pkC, sgC])
  exact ⟨W1, W2, W3, W4, ⟨r1, g1⟩, ⟨r2, g2⟩, ⟨r3, g3⟩, ⟨r4, g4⟩, H4⟩
end
set_option maxRecDepth 100000 in
set_option maxHeartbeats 1000000 in
theorem ntSame_any {A A2 : Option Addr} {c c2 : Nat} {l : List UInt8} {w : World} (hr : Rd w w.heap.size (.slice A l.length c) (cellsB l)) (hr2 : Rd w w.heap.size (.slice A2 l.length c2) (cellsB l)) (hl : l.length ≤ 100000) {p : Pk} (hw : p.Wide) {pos : Nat} (hp : p.head.pos = (pos : Int)) (h12 : 20 ≤ pos ∧ pos ≤ 100000) {kp : Nat} (hk : p.sg.sumAt = (kp : Int)) (hkp : kp ≤ 100000) :
    Calls Try.prog 10 #[.slice A l.length c, .slice A2 l.length c2, .agg (pkC p).toArray] w fun e w' => e = .returned (.bool true) ∧ Below w.heap.size w w' := by
  obtain ⟨X, hX⟩ : ∃ X, X = w.alloc (.cells (pkC p).toArray 39) := ⟨_, rfl⟩
  have hb0 : Below w.heap.size w X := by rw [hX]; exact up_alloc (Below.refl _ _) _
  have hs : X.heap.size = w.heap.size + 1 := by rw [hX]; simp
  have h5 : X.heap[w.heap.size]? = some (.cells (pkC p).toArray 39 (0, 0)) := by rw [hX]; exact heap_alloc_last w _
  have l1 := hdC_length hw.1
  have hF : Hid (∀ W, Below X.heap.size X W → W.cell? ⟨w.heap.size, 0, none⟩ = some (.bool p.head.six) ∧ W.cell? ⟨w.heap.size, 2, none⟩ = some (.int .i64 (pos : Int)) ∧ W.cell? ⟨w.heap.size, 42, none⟩ = some (.int .i64 (kp : Int))) := Lib.hid fun W hW => by
    have k := (hW.block _ (by omega)).trans h5
    have hc : ∀ j, W.cell? ⟨w.heap.size, j, none⟩ = (pkC p)[j]? := fun j => by rw [cell_of_row W _ j _ _ _ k, List.getElem?_toArray]
    refine ⟨?_, ?_, ?_⟩
    · rw [hc 0, pkC, List.getElem?_append_left (by omega)]; rfl
    · rw [hc 2, pkC, List.getElem?_append_left (by omega), ← hp]; rfl
    · rw [hc 42, pkC, List.getElem?_append_right (by omega), l1, List.getElem?_append_left (by rw [sgC_length]; omega), ← hk]; rfl
  have hG : Hid (∀ W, Below X.heap.size X W → ∀ i, (hi : i < l.length) → ∃ b o b2 o2 x, A = some ⟨b, o, none⟩ ∧ A2 = some ⟨b2, o2, none⟩ ∧ ∀ W', Below W.heap.size W W' → W'.cell? ⟨b, o + i, none⟩ = some (.int .u8 x) ∧ W'.cell? ⟨b2, o2 + i, none⟩ = some (.int .u8 x)) := Lib.hid fun W hW i hi => by
    obtain ⟨b, o, e, hb, hc⟩ := hr.addr (by omega)
    obtain ⟨b2, o2, e2, hb2, hc2⟩ := hr2.addr (by omega)
    refine ⟨b, o, b2, o2, ((l[i]'hi).toNat : Int), e, e2, fun W' hW' => ?_⟩
    have hbb : Below w.heap.size w W' := up (up hb0 hW) hW'
    exact ⟨(hbb.cell (p := ⟨b, o + i, none⟩) hb).trans (hc i hi), (hbb.cell (p := ⟨b2, o2 + i, none⟩) hb2).trans (hc2 i hi)⟩
  have hup : Hid (∀ W, Below X.heap.size X W → Below w.heap.size w W) := Lib.hid fun W hW => up hb0 hW
  have hadd : IntKind.i64.wrap ((pos : Int) + (kp : Int)) = ((pos + kp : Nat) : Int) := by rw [IntWalk.i64_in _ (by omega)]; omega
  have h13 : decide ((12 : Int) < (pos : Int)) = true := by simp; omega
  obtain ⟨c0, c2', c42⟩ := hF.out X (Below.refl _ _)
  clear h5 l1 hr hr2 hp hk hw hb0 h12 hkp
  have Hl := Lib.hid hl
  clear hl
  generalize p.head.six = z at *
  generalize hC : (pkC p).toArray = C at *
  generalize hn : l.length = n at *
  have Hn := Lib.hid hn
  clear hC hn
  generalize pos + kp = k at *
  subst hX
  go_enter Try.func10, Try.ntmps10
  go_wp2_with fail
  go_loopw [8] (fun iv wr => ∃ (i : Nat), i ≤ n ∧ iv = .int .i64 (i : Int) ∧ Hid (Below (w.alloc (.cells C 39)).heap.size (w.alloc (.cells C 39)) wr)) (fun iv _ => n - (intOf iv).toNat)
  case atStart => exact ⟨0, Nat.zero_le _, rfl, Lib.hid (Below.refl _ _)⟩
  case round =>
    obtain ⟨i, hin, rfl, hb⟩ := hrel
    by_cases hi : i < n
    · have t0 : decide ((i : Int) < (n : Int)) = true := by simp; omega
      obtain ⟨b, o, b2, o2, x, rfl, rfl, hc⟩ := hG.out _ hb.out i hi
      have HC := Lib.hid hc
      have hx : (x != x) = false := by simp
      have hil : (i : Int) < (n : Int) := by omega
      have hi1 : IntKind.i64.wrap ((i : Int) + 1) = ((i + 1 : Nat) : Int) := by have := Hl.out; have := Hn.out; rw [IntWalk.i64_in _ (by omega)]; omega
      clear hc
      go_wp2_with fail
      refine wp_region_held_drew (S := fun w' => w'.cell? ⟨b, o + i, none⟩ = some (.int .u8 x) ∧ w'.cell? ⟨b2, o2 + i, none⟩ = some (.int .u8 x)) (by kernel_rfl) (HC.out _ (drew_self _)) (fun hHeld => ?_)
      refine th 0 ?_
      go_frame
      refine th 1 ?_
      go_frame
      refine th 2 (v := .pointer (some ⟨b, o + i, none⟩)) ?_ (hy := fun wy hSw => by (go_simp <;> with_reducible rfl))
      go_frame
      refine th 3 (v := .int .u8 x) ?_ (hy := fun wy hSw => by (obtain ⟨s1, s2⟩ := hSw; go_simp <;> with_reducible rfl))
      go_frame
      refine th 4 ?_
      go_frame
      refine th 5 ?_
      go_frame
      refine th 6 (v := .pointer (some ⟨b2, o2 + i, none⟩)) ?_ (hy := fun wy hSw => by (go_simp <;> with_reducible rfl))
      go_frame
      refine th 7 (v := .int .u8 x) ?_ (hy := fun wy hSw => by (obtain ⟨s1, s2⟩ := hSw; go_simp <;> with_reducible rfl))
      go_frame
      refine th 8 (v := .bool false) ?_ (hy := fun wy hSw => by (go_simp <;> with_reducible rfl))
      go_frame
      refine th 9 ?_
      go_frame
      refine thn 10 ?_
      go_frame
      refine thn 11 ?_
      go_frame
      refine thn 12 ?_
      go_frame
      refine th 13 (v := .bool false) ?_ (hy := fun wy hSw => by (go_simp <;> with_reducible rfl))
      go_frame
      refine th 14 ?_
      go_frame
      refine thn 15 ?_
      go_frame
      refine thn 16 ?_
      go_frame
      refine thn 17 ?_
      go_frame
      refine thn 18 ?_
      go_frame
      refine th 19 (v := .bool false) ?_ (hy := fun wy hSw => by (go_simp <;> with_reducible rfl))
      go_frame
      refine th 20 ?_
      go_frame
      refine thn 21 ?_
      go_frame
      refine thn 22 ?_
      go_frame
      refine th 23 (v := .bool false) ?_ (hy := fun wy hSw => by (go_simp <;> with_reducible rfl))
      go_frame
      refine th 24 ?_
      go_frame
      refine thn 25 ?_
      go_frame
      refine thn 26 ?_
      go_frame
      refine th 27 (v := .bool false) ?_ (hy := fun wy hSw => by (go_simp <;> with_reducible rfl))
      go_frame
      refine wpAnyH_done (by kernel_rfl) ?_ _
      go_wp2_with fail
      go_roundw
      case rel => exact ⟨i + 1, by omega, by first | rfl | (rw [← hi1]; rfl), Lib.hid (up hb.out (drew_self _))⟩
      case measure => simp [intOf]; omega
    · obtain rfl : i = n := by omega
      obtain ⟨d0, d2, _⟩ := hF.out _ hb.out
      cases z with
      | true =>
        go_wp2_with fail
        go_ret
        exact ⟨rfl, hup.out _ hb.out⟩
      | false =>
        go_wp2_with fail
        go_ret
        exact ⟨rfl, hup.out _ hb.out⟩
theorem ntSlice {w' : World} {A : Option Addr} {n c : Nat} {l : List UInt8} (h : Rd w' w'.heap.size (.slice A n c) (cellsB l)) : n = l.length := by
  obtain ⟨A1, c1, e, _⟩ := h.bytes
  injection e
set_option maxRecDepth 100000 in
set_option maxHeartbeats 2000000 in
theorem natRewrites_no (A0 : Option Addr) (c0 : Nat) (l : List UInt8) (to : Ad) (n : Nat) (w : World) (hr : Rd w w.heap.size (.slice A0 l.length c0) (cellsB l)) (tw : to.Wide) (hn : n < 65536) (hE : ntErr (l.take 2060) to n ≠ 0) :
    Calls Try.prog 3 #[.slice A0 l.length c0, .agg (adC to).toArray, .int .u16 (n : Int)] w fun e w' => e = .returned (.bool true) ∧ Below w.heap.size w w' := by
  have hlv := Lib.hid ntLives_any
  obtain ⟨d, hd⟩ : ∃ d, d = l.take 2060 := ⟨_, rfl⟩
  rw [← hd] at hE
  have hdl : d.length ≤ 2060 := by rw [hd, List.length_take]; omega
  obtain ⟨m, hm⟩ : ∃ m, m = d.length := ⟨_, rfl⟩
  obtain ⟨X, hX⟩ : ∃ X, X = w.alloc (.cells (adC to).toArray 25) := ⟨_, rfl⟩
  have hXs : X.heap.size = w.heap.size + 1 := by rw [hX]; simp
  have hbX : Below w.heap.size w X := by rw [hX]; exact up_alloc (Below.refl _ _) _
  have hb4 : X.heap[w.heap.size]? = some (.cells (adC to).toArray 25 (0, 0)) := by rw [hX]; exact heap_alloc_last w _
  have hi := info_adA tw
  have hi2 := info_ad tw
  have hfew : Hid (Calls Try.prog 4 #[.slice A0 l.length c0, .int .i64 2060] X fun e w' => ∃ A c, e = .returned (.slice A m c) ∧ Rd w' w'.heap.size (.slice A m c) (cellsB d) ∧ Below X.heap.size X w') := Lib.hid <| by
    refine (few_any _ l 2060 _ _ ((hr.below hbX).more hbX.size) (Nat.le_refl _) (by omega)).mono ?_
    rintro e w' ⟨v, rfl, hv, hb⟩
    rw [← hd] at hv
    obtain ⟨A, c, rfl, hr'⟩ := mine_slice (w := X) hv hm.symm
    exact ⟨A, c, rfl, hr', hb⟩
  obtain ⟨E, hEd⟩ : ∃ E, E = ntErr d to n := ⟨_, rfl⟩
  obtain ⟨R1, hR1⟩ : ∃ R, R = ntRes d 1 to n := ⟨_, rfl⟩
  obtain ⟨R0, hR0⟩ : ∃ R, R = ntRes d 0 to n := ⟨_, rfl⟩
  have hTo : Hid (∀ W A c, Rd W W.heap.size (.slice A m c) (cellsB d) → Calls Try.prog 5 #[.slice A m c, .agg (adC to).toArray, .int .u16 (n : Int)] W fun e w' => ∃ A' c', e = .returned (.tuple #[.slice A' R1.length c', .int .i64 (E : Int)]) ∧ Rd w' w'.heap.size (.slice A' R1.length c') (cellsB R1) ∧ Below W.heap.size W w') := Lib.hid fun W A c h => by
    rw [hm] at h ⊢
    refine (ntTo_any h (by omega) tw hn).mono ?_
    rintro e w' ⟨A', n', c', rfl, r1, r2⟩
    rw [← hEd, ← hR1] at *
    have := ntSlice r1
    subst this
    exact ⟨A', c', rfl, r1, r2⟩
  have hFr : Hid (∀ W A c, Rd W W.heap.size (.slice A m c) (cellsB d) → Calls Try.prog 6 #[.slice A m c, .agg (adC to).toArray, .int .u16 (n : Int)] W fun e w' => ∃ A' c', e = .returned (.tuple #[.slice A' R0.length c', .int .i64 (E : Int)]) ∧ Rd w' w'.heap.size (.slice A' R0.length c') (cellsB R0) ∧ Below W.heap.size W w') := Lib.hid fun W A c h => by
    rw [hm] at h ⊢
    refine (ntFrom_any h (by omega) tw hn).mono ?_
    rintro e w' ⟨A', n', c', rfl, r1, r2⟩
    rw [← hEd, ← hR0] at *
    have := ntSlice r1
    subst this
    exact ⟨A', c', rfl, r1, r2⟩
  have hRw1 : Hid (∀ W A c, Rd W W.heap.size (.slice A m c) (cellsB d) → Calls Try.prog 7 #[.slice A m c, .int .i64 1, .agg (adC to).toArray, .int .u16 (n : Int)] W fun e w' => ∃ A' c', e = .returned (.tuple #[.slice A' R1.length c', .int .i64 (E : Int)]) ∧ Rd w' w'.heap.size (.slice A' R1.length c') (cellsB R1) ∧ Below W.heap.size W w') := Lib.hid fun W A c h => by
    rw [hm] at h ⊢
    refine (rrewrite_any h (by omega) (which := 1) (.inr rfl) rfl tw hn).mono ?_
    rintro e w' ⟨A', n', c', rfl, r1, r2⟩
    rw [← hEd, ← hR1] at *
    have := ntSlice r1
    subst this
    exact ⟨A', c', rfl, r1, r2⟩
  have hRw0 : Hid (∀ W A c, Rd W W.heap.size (.slice A m c) (cellsB d) → Calls Try.prog 7 #[.slice A m c, .int .i64 0, .agg (adC to).toArray, .int .u16 (n : Int)] W fun e w' => ∃ A' c', e = .returned (.tuple #[.slice A' R0.length c', .int .i64 (E : Int)]) ∧ Rd w' w'.heap.size (.slice A' R0.length c') (cellsB R0) ∧ Below W.heap.size W w') := Lib.hid fun W A c h => by
    rw [hm] at h ⊢
    refine (rrewrite_any h (by omega) (which := 0) (.inl rfl) rfl tw hn).mono ?_
    rintro e w' ⟨A', n', c', rfl, r1, r2⟩
    rw [← hEd, ← hR0] at *
    have := ntSlice r1
    subst this
    exact ⟨A', c', rfl, r1, r2⟩
  have hAp : Hid (∀ W A c, Rd W W.heap.size (.slice A m c) (cellsB d) → ∃ A' c' w2, (Builtin.append_ #[22, 22] 22 #[.slice (some ⟨W.heap.size, 0, none⟩) 0 0, .slice A m c]).run Try.prog (W.alloc (.cells #[] 5)) = .ok (.slice A' m c') w2 ∧ Rd w2 w2.heap.size (.slice A' m c') (cellsB d) ∧ Below W.heap.size W w2) := Lib.hid fun W A c h => by
    obtain ⟨v2, w2, r2, m2, b2⟩ := mine_more (l := []) (Mine.empty W W.heap.size 5 (Nat.le_refl _)) (by simp) (x := .slice A m c) (m := d) ((h.alloc (Nat.le_refl _) _).more (by simp)) (by simp; omega)
    obtain ⟨A', c', rfl, hr'⟩ := mine_slice (w := W) (l := d) m2 hm.symm
    exact ⟨A', c', w2, r2, hr', (up_alloc (Below.refl W.heap.size W) _).trans b2⟩
  have hrow : Hid (∀ W, Below X.heap.size X W → W.heap[w.heap.size]? = some (.cells (adC to).toArray 25 (0, 0))) := Lib.hid fun W hW => (hW.block _ (by omega)).trans hb4
  have hup : Hid (∀ W, Below X.heap.size X W → Below w.heap.size w W) := Lib.hid fun W hW => up hbX hW
  have hyw := pkP_wide d
  obtain ⟨y, hy⟩ : ∃ y, y = pkRead d := ⟨_, rfl⟩
  obtain ⟨er, her⟩ : ∃ er, er = pkErr d := ⟨_, rfl⟩
  rw [← hy] at hyw
  have hrr : Hid (∀ W A c, Rd W W.heap.size (.slice A m c) (cellsB d) → Calls Try.prog 8 #[.slice A m c] W fun e w' => e = .returned (.tuple #[.agg (pkC y).toArray, .int .i64 (er : Int)]) ∧ Below W.heap.size W w') := Lib.hid fun W A c hr => by
    rw [hm] at hr ⊢
    rw [hy, her]
    exact rpkParse_any hr
  have hzp : ∀ w, (zeroValue 39).run Try.prog w = .ok (.agg (pkC Pk.none).toArray) w := zero_pk
  have hSt : Hid (∀ (x : Pk), x.Wide → ∀ W : World, ∃ W', (storeCells ⟨W.heap.size, 0, none⟩ (pkC x)).run Try.prog (W.alloc (.cells (pkC Pk.none).toArray 39)) = .ok () W' ∧ Below W.heap.size W W' ∧ W.heap.size < W'.heap.size ∧ PkAt W' W.heap.size x) := Lib.hid fun x hx W => by
    obtain ⟨W', _, hat, hgr, hsz, hsc⟩ := store_pk (w := W.alloc (.cells (pkC Pk.none).toArray 39)) (g := W.heap.size) (a := Pk.none) (b := x) (heap_alloc_last W _) Pk.none_wide hx
    exact ⟨W', hsc, grown_below (up_alloc (Below.refl _ _) _) hgr (Nat.le_refl _), by rw [hsz]; simp, hat⟩
  have hyl := pkC_length hyw
  have hSty := Lib.hid (hSt.out y hyw)
  rw [← hEd] at hE
  have hl1 : R1.length = 0 := by rw [hR1, ntRes_no (by rw [← hEd]; exact hE)]; rfl
  have hl0 : R0.length = 0 := by rw [hR0, ntRes_no (by rw [← hEd]; exact hE)]; rfl
  have kE := bne_zero hE
  rw [hl1] at hTo hRw1
  rw [hl0] at hFr hRw0
  have hcl : er = 0 ∨ er ≠ 0 := by omega
  clear hr hd hm hXs hbX hb4 hEd hR1 hR0 hdl hn tw hE hy her hSt hyw hl1 hl0
  rcases hcl with he | he
  · subst he
    generalize hZZ : pkC Pk.none = ZP at *
    generalize hAA : adC to = AC at *
    clear hZZ hAA
    generalize hPY : pkC y = PC at *
    clear hPY
    subst hX
    go_enter Try.func3, Try.ntmps3
    go_wp2_with (go_at_call 4; refine hfew.out.mono ?_; rintro _ w1 ⟨A1, c1, rfl, hr1, hb1⟩; have HR1 := Lib.hid hr1; have HB := Lib.hid hb1; clear hr1 hb1)
    have HBd1 := Lib.hid (up HB.out (drew_self w1))
    replace HR1 := Lib.hid (show Rd w1.drew w1.drew.heap.size (.slice A1 m c1) (cellsB d) from (HR1.out.below (drew_self _)).more (drew_self _).size)
    refine wp_region_held_drew (S := fun w' => w'.heap[w.heap.size]? = some (.cells AC.toArray 25 (0, 0))) (by kernel_rfl) (hrow.out _ HBd1.out) (fun hHeld => ?_)
    refine th 1 ?_
    go_frame
    refine th 3 (v := .agg AC.toArray) ?_ (hy := fun wy hSw => by exact exec_load (t := 25) (x := .tmp 4) rfl (pv := .pointer (some ⟨w.heap.size, 0, none⟩)) rfl (run_loadAt_mid wy w.heap.size 0 25 AC _ (row_range hSw) Try.underlying25 rfl hi2))
    go_frame
    refine th 4 ?_
    go_frame
    refine wpAnyH_ready (rs := [0]) (by kernel_rfl) (by simp) (AllReadyH.cons (o := ⟨some 26, .buildSlice 22 0 #[], _, _, _, none⟩) rfl (fun K hK => ?_) AllReadyH.nil)
    rw [if_pos (by kernel_rfl)]
    go_simp
    refine hK.out _ _ (hrow.out _ (up_alloc HBd1.out (.cells #[] 5))) (fun _ => ?_)
    clear hK K
    try go_frame
    refine wpAnyH_ready (rs := [2]) (by kernel_rfl) (by simp) (AllReadyH.cons (o := ⟨some 28, .call { callee := .builtin .append, args := #[.tmp 26, .tmp 27], argTypes := #[22, 22] }, 22, _, _, none⟩) rfl (fun K hK => ?_) AllReadyH.nil)
    rw [if_pos (by kernel_rfl)]
    obtain ⟨Awa, cwa, wa, hrunwa, hrwa, hbwa⟩ := hAp.out _ _ _ HR1.out
    refine wp_run (.slice Awa m cwa) wa (exec_append rfl (u := .slice (some ⟨w1.drew.heap.size, 0, none⟩) 0 0) rfl (v := .slice A1 m c1) rfl hrunwa) ?_
    replace HB := Lib.hid (up HBd1.out hbwa)
    replace HR1 := Lib.hid ((HR1.out.below hbwa).more hbwa.size)
    have HRa := Lib.hid hrwa
    clear hrunwa hrwa hbwa HBd1
    refine hK.out _ _ (hrow.out _ HB.out) (fun _ => ?_)
    clear hK K
    try go_frame
    refine wpAnyH_ready (rs := [5]) (by kernel_rfl) (by simp) (AllReadyH.cons (o := ⟨some 31, .call { callee := .value (.func 5), args := #[.tmp 28, .tmp 29, .tmp 30], argTypes := #[22, 25, 26] }, _, _, _, none⟩) rfl (fun K hK => ?_) AllReadyH.nil)
    rw [if_pos (by kernel_rfl)]
    go_simp
    refine (hTo.out _ _ _ HRa.out).mono ?_
    rintro _ w3 ⟨A3, c3, rfl, hr3, hb3⟩
    replace HB := Lib.hid (up HB.out hb3)
    replace HR1 := Lib.hid ((HR1.out.below hb3).more hb3.size)
    have HR3 := Lib.hid hr3
    clear hr3 hb3 HRa
    dsimp only
    refine hK.out _ _ (hrow.out _ HB.out) (fun _ => ?_)
    clear hK K
    try go_frame
    refine th 6 ?_
    go_frame
    refine th 7 ?_
    go_frame
    refine th 8 ?_
    go_frame
    refine th 9 ?_
    go_frame
    refine th 10 ?_
    go_frame
    refine wpAnyH_done (by kernel_rfl) ?_ _
    go_wp2_with fail
    have HBd0 := Lib.hid (up HB.out (drew_self w3))
    replace HR1 := Lib.hid (show Rd w3.drew w3.drew.heap.size (.slice A1 m c1) (cellsB d) from (HR1.out.below (drew_self _)).more (drew_self _).size)
    refine wp_region_held_drew (S := fun w' => w'.heap[w.heap.size]? = some (.cells AC.toArray 25 (0, 0))) (by kernel_rfl) (hrow.out _ HBd0.out) (fun hHeld => ?_)
    refine th 1 ?_
    go_frame
    refine th 3 (v := .agg AC.toArray) ?_ (hy := fun wy hSw => by exact exec_load (t := 25) (x := .tmp 4) rfl (pv := .pointer (some ⟨w.heap.size, 0, none⟩)) rfl (run_loadAt_mid wy w.heap.size 0 25 AC _ (row_range hSw) Try.underlying25 rfl hi2))
    go_frame
    refine th 4 ?_
    go_frame
    refine wpAnyH_ready (rs := [0]) (by kernel_rfl) (by simp) (AllReadyH.cons (o := ⟨some 35, .buildSlice 22 0 #[], _, _, _, none⟩) rfl (fun K hK => ?_) AllReadyH.nil)
    rw [if_pos (by kernel_rfl)]
    go_simp
    refine hK.out _ _ (hrow.out _ (up_alloc HBd0.out (.cells #[] 5))) (fun _ => ?_)
    clear hK K
    try go_frame
    refine wpAnyH_ready (rs := [2]) (by kernel_rfl) (by simp) (AllReadyH.cons (o := ⟨some 37, .call { callee := .builtin .append, args := #[.tmp 35, .tmp 36], argTypes := #[22, 22] }, 22, _, _, none⟩) rfl (fun K hK => ?_) AllReadyH.nil)
    rw [if_pos (by kernel_rfl)]
    obtain ⟨Awb, cwb, wb, hrunwb, hrwb, hbwb⟩ := hAp.out _ _ _ HR1.out
    refine wp_run (.slice Awb m cwb) wb (exec_append rfl (u := .slice (some ⟨w3.drew.heap.size, 0, none⟩) 0 0) rfl (v := .slice A1 m c1) rfl hrunwb) ?_
    replace HB := Lib.hid (up HBd0.out hbwb)
    replace HR1 := Lib.hid ((HR1.out.below hbwb).more hbwb.size)
    have HRa := Lib.hid hrwb
    replace HR3 := Lib.hid ((HR3.out.below ((drew_self w3).trans hbwb)).more ((drew_self w3).trans hbwb).size)
    clear hrunwb hrwb hbwb HBd0
    refine hK.out _ _ (hrow.out _ HB.out) (fun _ => ?_)
    clear hK K
    try go_frame
    refine wpAnyH_ready (rs := [5]) (by kernel_rfl) (by simp) (AllReadyH.cons (o := ⟨some 40, .call { callee := .value (.func 6), args := #[.tmp 37, .tmp 38, .tmp 39], argTypes := #[22, 25, 26] }, _, _, _, none⟩) rfl (fun K hK => ?_) AllReadyH.nil)
    rw [if_pos (by kernel_rfl)]
    go_simp
    refine (hFr.out _ _ _ HRa.out).mono ?_
    rintro _ w5 ⟨A5, c5, rfl, hr5, hb5⟩
    replace HB := Lib.hid (up HB.out hb5)
    replace HR1 := Lib.hid ((HR1.out.below hb5).more hb5.size)
    have HR5 := Lib.hid hr5
    replace HR3 := Lib.hid ((HR3.out.below hb5).more hb5.size)
    clear hr5 hb5 HRa
    dsimp only
    refine hK.out _ _ (hrow.out _ HB.out) (fun _ => ?_)
    clear hK K
    try go_frame
    refine th 6 ?_
    go_frame
    refine th 7 ?_
    go_frame
    refine th 8 ?_
    go_frame
    refine th 9 ?_
    go_frame
    refine th 10 ?_
    go_frame
    refine wpAnyH_done (by kernel_rfl) ?_ _
    have hr4 := hrow.out _ HB.out
    have hEE : ((E : Int) != (E : Int)) = false := by simp
    go_wp2_with (first
      | ((with_reducible refine wpList_load_row (o := ⟨some 45, .load 25 (.tmp 4), _, _, _, _⟩) rfl 25 (.tmp 4) rfl w.heap.size ?_ 25 AC.toArray (0, 0) _ hr4 Try.underlying25 rfl hi ?_); exact rfl)
      | ((with_reducible refine wpList_load_row (o := ⟨some 52, .load 25 (.tmp 4), _, _, _, _⟩) rfl 25 (.tmp 4) rfl w.heap.size ?_ 25 AC.toArray (0, 0) _ hr4 Try.underlying25 rfl hi ?_); exact rfl)
      | (go_at_call 7; first | (refine (hRw1.out _ _ _ HR1.out).mono ?_; rintro _ w6 ⟨A6, c6, rfl, hr6, hb6⟩; replace HB := Lib.hid (up HB.out hb6); replace HR1 := Lib.hid ((HR1.out.below hb6).more hb6.size); replace HR3 := Lib.hid ((HR3.out.below hb6).more hb6.size); replace HR5 := Lib.hid ((HR5.out.below hb6).more hb6.size); have HR6 := Lib.hid hr6; clear hr6 hb6 hr4 hRw1; have hr4 := hrow.out _ HB.out) | (refine (hRw0.out _ _ _ HR1.out).mono ?_; rintro _ w7 ⟨A7, c7, rfl, hr7, hb7⟩; replace HB := Lib.hid (up HB.out hb7); replace HR1 := Lib.hid ((HR1.out.below hb7).more hb7.size); replace HR3 := Lib.hid ((HR3.out.below hb7).more hb7.size); replace HR5 := Lib.hid ((HR5.out.below hb7).more hb7.size); replace HR6 := Lib.hid ((HR6.out.below hb7).more hb7.size); have HR7 := Lib.hid hr7; clear hr7 hb7 hr4 hRw0))
      | (go_at_call 8; refine (hrr.out _ _ _ HR1.out).mono ?_; rintro _ w8 ⟨rfl, hb8⟩; obtain ⟨w9, hst9, hb9, hlt9, hat9⟩ := hSty.out w8; have hb89 := up hb8 hb9; replace HR3 := Lib.hid ((HR3.out.below hb89).more hb89.size); replace HR5 := Lib.hid ((HR5.out.below hb89).more hb89.size); replace HR6 := Lib.hid ((HR6.out.below hb89).more hb89.size); replace HR7 := Lib.hid ((HR7.out.below hb89).more hb89.size); replace HB := Lib.hid (up HB.out hb89); have H15 := Lib.hid (And.intro hat9 hlt9); clear hb8 hb9 hb89 hlt9 hat9 HR1 hrr hSty)
      | (with_reducible refine wpList_alloc_zero (o := ⟨some 15, .alloc 39, _, _, _, _⟩) rfl 39 rfl ZP.toArray hzp ?_)
      | (go_at_call 9; refine (hlv.out _).mono ?_; rintro _ wz ⟨rfl, hbz⟩; have HZ := Lib.hid (hup.out _ (up HB.out hbz)); clear hbz))
    go_ret
    exact ⟨rfl, HZ.out⟩
  · have kR := bne_zero he
    clear he
    generalize hZZ : pkC Pk.none = ZP at *
    generalize hAA : adC to = AC at *
    clear hZZ hAA
    generalize hPY : pkC y = PC at *
    clear hPY
    subst hX
    go_enter Try.func3, Try.ntmps3
    go_wp2_with (go_at_call 4; refine hfew.out.mono ?_; rintro _ w1 ⟨A1, c1, rfl, hr1, hb1⟩; have HR1 := Lib.hid hr1; have HB := Lib.hid hb1; clear hr1 hb1)
    have HBd1 := Lib.hid (up HB.out (drew_self w1))
    replace HR1 := Lib.hid (show Rd w1.drew w1.drew.heap.size (.slice A1 m c1) (cellsB d) from (HR1.out.below (drew_self _)).more (drew_self _).size)
    refine wp_region_held_drew (S := fun w' => w'.heap[w.heap.size]? = some (.cells AC.toArray 25 (0, 0))) (by kernel_rfl) (hrow.out _ HBd1.out) (fun hHeld => ?_)
    refine th 1 ?_
    go_frame
    refine th 3 (v := .agg AC.toArray) ?_ (hy := fun wy hSw => by exact exec_load (t := 25) (x := .tmp 4) rfl (pv := .pointer (some ⟨w.heap.size, 0, none⟩)) rfl (run_loadAt_mid wy w.heap.size 0 25 AC _ (row_range hSw) Try.underlying25 rfl hi2))
    go_frame
    refine th 4 ?_
    go_frame
    refine wpAnyH_ready (rs := [0]) (by kernel_rfl) (by simp) (AllReadyH.cons (o := ⟨some 26, .buildSlice 22 0 #[], _, _, _, none⟩) rfl (fun K hK => ?_) AllReadyH.nil)
    rw [if_pos (by kernel_rfl)]
    go_simp
    refine hK.out _ _ (hrow.out _ (up_alloc HBd1.out (.cells #[] 5))) (fun _ => ?_)
    clear hK K
    try go_frame
    refine wpAnyH_ready (rs := [2]) (by kernel_rfl) (by simp) (AllReadyH.cons (o := ⟨some 28, .call { callee := .builtin .append, args := #[.tmp 26, .tmp 27], argTypes := #[22, 22] }, 22, _, _, none⟩) rfl (fun K hK => ?_) AllReadyH.nil)
    rw [if_pos (by kernel_rfl)]
    obtain ⟨Awa, cwa, wa, hrunwa, hrwa, hbwa⟩ := hAp.out _ _ _ HR1.out
    refine wp_run (.slice Awa m cwa) wa (exec_append rfl (u := .slice (some ⟨w1.drew.heap.size, 0, none⟩) 0 0) rfl (v := .slice A1 m c1) rfl hrunwa) ?_
    replace HB := Lib.hid (up HBd1.out hbwa)
    replace HR1 := Lib.hid ((HR1.out.below hbwa).more hbwa.size)
    have HRa := Lib.hid hrwa
    clear hrunwa hrwa hbwa HBd1
    refine hK.out _ _ (hrow.out _ HB.out) (fun _ => ?_)
    clear hK K
    try go_frame
    refine wpAnyH_ready (rs := [5]) (by kernel_rfl) (by simp) (AllReadyH.cons (o := ⟨some 31, .call { callee := .value (.func 5), args := #[.tmp 28, .tmp 29, .tmp 30], argTypes := #[22, 25, 26] }, _, _, _, none⟩) rfl (fun K hK => ?_) AllReadyH.nil)
    rw [if_pos (by kernel_rfl)]
    go_simp
    refine (hTo.out _ _ _ HRa.out).mono ?_
    rintro _ w3 ⟨A3, c3, rfl, hr3, hb3⟩
    replace HB := Lib.hid (up HB.out hb3)
    replace HR1 := Lib.hid ((HR1.out.below hb3).more hb3.size)
    have HR3 := Lib.hid hr3
    clear hr3 hb3 HRa
    dsimp only
    refine hK.out _ _ (hrow.out _ HB.out) (fun _ => ?_)
    clear hK K
    try go_frame
    refine th 6 ?_
    go_frame
    refine th 7 ?_
    go_frame
    refine th 8 ?_
    go_frame
    refine th 9 ?_
    go_frame
    refine th 10 ?_
    go_frame
    refine wpAnyH_done (by kernel_rfl) ?_ _
    go_wp2_with fail
    have HBd0 := Lib.hid (up HB.out (drew_self w3))
    replace HR1 := Lib.hid (show Rd w3.drew w3.drew.heap.size (.slice A1 m c1) (cellsB d) from (HR1.out.below (drew_self _)).more (drew_self _).size)
    refine wp_region_held_drew (S := fun w' => w'.heap[w.heap.size]? = some (.cells AC.toArray 25 (0, 0))) (by kernel_rfl) (hrow.out _ HBd0.out) (fun hHeld => ?_)
    refine th 1 ?_
    go_frame
    refine th 3 (v := .agg AC.toArray) ?_ (hy := fun wy hSw => by exact exec_load (t := 25) (x := .tmp 4) rfl (pv := .pointer (some ⟨w.heap.size, 0, none⟩)) rfl (run_loadAt_mid wy w.heap.size 0 25 AC _ (row_range hSw) Try.underlying25 rfl hi2))
    go_frame
    refine th 4 ?_
    go_frame
    refine wpAnyH_ready (rs := [0]) (by kernel_rfl) (by simp) (AllReadyH.cons (o := ⟨some 35, .buildSlice 22 0 #[], _, _, _, none⟩) rfl (fun K hK => ?_) AllReadyH.nil)
    rw [if_pos (by kernel_rfl)]
    go_simp
    refine hK.out _ _ (hrow.out _ (up_alloc HBd0.out (.cells #[] 5))) (fun _ => ?_)
    clear hK K
    try go_frame
    refine wpAnyH_ready (rs := [2]) (by kernel_rfl) (by simp) (AllReadyH.cons (o := ⟨some 37, .call { callee := .builtin .append, args := #[.tmp 35, .tmp 36], argTypes := #[22, 22] }, 22, _, _, none⟩) rfl (fun K hK => ?_) AllReadyH.nil)
    rw [if_pos (by kernel_rfl)]
    obtain ⟨Awb, cwb, wb, hrunwb, hrwb, hbwb⟩ := hAp.out _ _ _ HR1.out
    refine wp_run (.slice Awb m cwb) wb (exec_append rfl (u := .slice (some ⟨w3.drew.heap.size, 0, none⟩) 0 0) rfl (v := .slice A1 m c1) rfl hrunwb) ?_
    replace HB := Lib.hid (up HBd0.out hbwb)
    replace HR1 := Lib.hid ((HR1.out.below hbwb).more hbwb.size)
    have HRa := Lib.hid hrwb
    replace HR3 := Lib.hid ((HR3.out.below ((drew_self w3).trans hbwb)).more ((drew_self w3).trans hbwb).size)
    clear hrunwb hrwb hbwb HBd0
    refine hK.out _ _ (hrow.out _ HB.out) (fun _ => ?_)
    clear hK K
    try go_frame
    refine wpAnyH_ready (rs := [5]) (by kernel_rfl) (by simp) (AllReadyH.cons (o := ⟨some 40, .call { callee := .value (.func 6), args := #[.tmp 37, .tmp 38, .tmp 39], argTypes := #[22, 25, 26] }, _, _, _, none⟩) rfl (fun K hK => ?_) AllReadyH.nil)
    rw [if_pos (by kernel_rfl)]
    go_simp
    refine (hFr.out _ _ _ HRa.out).mono ?_
    rintro _ w5 ⟨A5, c5, rfl, hr5, hb5⟩
    replace HB := Lib.hid (up HB.out hb5)
    replace HR1 := Lib.hid ((HR1.out.below hb5).more hb5.size)
    have HR5 := Lib.hid hr5
    replace HR3 := Lib.hid ((HR3.out.below hb5).more hb5.size)
    clear hr5 hb5 HRa
    dsimp only
    refine hK.out _ _ (hrow.out _ HB.out) (fun _ => ?_)
    clear hK K
    try go_frame
    refine th 6 ?_
    go_frame
    refine th 7 ?_
    go_frame
    refine th 8 ?_
    go_frame
    refine th 9 ?_
    go_frame
    refine th 10 ?_
    go_frame
    refine wpAnyH_done (by kernel_rfl) ?_ _
    have hr4 := hrow.out _ HB.out
    have hEE : ((E : Int) != (E : Int)) = false := by simp
    go_wp2_with (first
      | ((with_reducible refine wpList_load_row (o := ⟨some 45, .load 25 (.tmp 4), _, _, _, _⟩) rfl 25 (.tmp 4) rfl w.heap.size ?_ 25 AC.toArray (0, 0) _ hr4 Try.underlying25 rfl hi ?_); exact rfl)
      | ((with_reducible refine wpList_load_row (o := ⟨some 52, .load 25 (.tmp 4), _, _, _, _⟩) rfl 25 (.tmp 4) rfl w.heap.size ?_ 25 AC.toArray (0, 0) _ hr4 Try.underlying25 rfl hi ?_); exact rfl)
      | (go_at_call 7; first | (refine (hRw1.out _ _ _ HR1.out).mono ?_; rintro _ w6 ⟨A6, c6, rfl, hr6, hb6⟩; replace HB := Lib.hid (up HB.out hb6); replace HR1 := Lib.hid ((HR1.out.below hb6).more hb6.size); replace HR3 := Lib.hid ((HR3.out.below hb6).more hb6.size); replace HR5 := Lib.hid ((HR5.out.below hb6).more hb6.size); have HR6 := Lib.hid hr6; clear hr6 hb6 hr4 hRw1; have hr4 := hrow.out _ HB.out) | (refine (hRw0.out _ _ _ HR1.out).mono ?_; rintro _ w7 ⟨A7, c7, rfl, hr7, hb7⟩; replace HB := Lib.hid (up HB.out hb7); replace HR1 := Lib.hid ((HR1.out.below hb7).more hb7.size); replace HR3 := Lib.hid ((HR3.out.below hb7).more hb7.size); replace HR5 := Lib.hid ((HR5.out.below hb7).more hb7.size); replace HR6 := Lib.hid ((HR6.out.below hb7).more hb7.size); have HR7 := Lib.hid hr7; clear hr7 hb7 hr4 hRw0))
      | (go_at_call 8; refine (hrr.out _ _ _ HR1.out).mono ?_; rintro _ w8 ⟨rfl, hb8⟩; obtain ⟨w9, hst9, hb9, hlt9, hat9⟩ := hSty.out w8; have hb89 := up hb8 hb9; replace HR3 := Lib.hid ((HR3.out.below hb89).more hb89.size); replace HR5 := Lib.hid ((HR5.out.below hb89).more hb89.size); replace HR6 := Lib.hid ((HR6.out.below hb89).more hb89.size); replace HR7 := Lib.hid ((HR7.out.below hb89).more hb89.size); replace HB := Lib.hid (up HB.out hb89); have H15 := Lib.hid (And.intro hat9 hlt9); clear hb8 hb9 hb89 hlt9 hat9 HR1 hrr hSty)
      | (with_reducible refine wpList_alloc_zero (o := ⟨some 15, .alloc 39, _, _, _, _⟩) rfl 39 rfl ZP.toArray hzp ?_)
      | (go_at_call 9; refine (hlv.out _).mono ?_; rintro _ wz ⟨rfl, hbz⟩; have HZ := Lib.hid (hup.out _ (up HB.out hbz)); clear hbz))
    go_ret
    exact ⟨rfl, HZ.out⟩
set_option maxRecDepth 100000 in
set_option maxHeartbeats 2000000 in
theorem natRewrites_yes (A0 : Option Addr) (c0 : Nat) (l : List UInt8) (to : Ad) (n : Nat) (w : World) (hr : Rd w w.heap.size (.slice A0 l.length c0) (cellsB l)) (tw : to.Wide) (hn : n < 65536) (hE : ntErr (l.take 2060) to n = 0) :
    Calls Try.prog 3 #[.slice A0 l.length c0, .agg (adC to).toArray, .int .u16 (n : Int)] w fun e w' => e = .returned (.bool true) ∧ Below w.heap.size w w' := by
  have hlv := Lib.hid ntLives_any
  obtain ⟨d, hd⟩ : ∃ d, d = l.take 2060 := ⟨_, rfl⟩
  rw [← hd] at hE
  have hdl : d.length ≤ 2060 := by rw [hd, List.length_take]; omega
  obtain ⟨m, hm⟩ : ∃ m, m = d.length := ⟨_, rfl⟩
  obtain ⟨X, hX⟩ : ∃ X, X = w.alloc (.cells (adC to).toArray 25) := ⟨_, rfl⟩
  have hXs : X.heap.size = w.heap.size + 1 := by rw [hX]; simp
  have hbX : Below w.heap.size w X := by rw [hX]; exact up_alloc (Below.refl _ _) _
  have hb4 : X.heap[w.heap.size]? = some (.cells (adC to).toArray 25 (0, 0)) := by rw [hX]; exact heap_alloc_last w _
  have hi := info_adA tw
  have hi2 := info_ad tw
  have hfew : Hid (Calls Try.prog 4 #[.slice A0 l.length c0, .int .i64 2060] X fun e w' => ∃ A c, e = .returned (.slice A m c) ∧ Rd w' w'.heap.size (.slice A m c) (cellsB d) ∧ Below X.heap.size X w') := Lib.hid <| by
    refine (few_any _ l 2060 _ _ ((hr.below hbX).more hbX.size) (Nat.le_refl _) (by omega)).mono ?_
    rintro e w' ⟨v, rfl, hv, hb⟩
    rw [← hd] at hv
    obtain ⟨A, c, rfl, hr'⟩ := mine_slice (w := X) hv hm.symm
    exact ⟨A, c, rfl, hr', hb⟩
  obtain ⟨E, hEd⟩ : ∃ E, E = ntErr d to n := ⟨_, rfl⟩
  obtain ⟨R1, hR1⟩ : ∃ R, R = ntRes d 1 to n := ⟨_, rfl⟩
  obtain ⟨R0, hR0⟩ : ∃ R, R = ntRes d 0 to n := ⟨_, rfl⟩
  have hTo : Hid (∀ W A c, Rd W W.heap.size (.slice A m c) (cellsB d) → Calls Try.prog 5 #[.slice A m c, .agg (adC to).toArray, .int .u16 (n : Int)] W fun e w' => ∃ A' c', e = .returned (.tuple #[.slice A' R1.length c', .int .i64 (E : Int)]) ∧ Rd w' w'.heap.size (.slice A' R1.length c') (cellsB R1) ∧ Below W.heap.size W w') := Lib.hid fun W A c h => by
    rw [hm] at h ⊢
    refine (ntTo_any h (by omega) tw hn).mono ?_
    rintro e w' ⟨A', n', c', rfl, r1, r2⟩
    rw [← hEd, ← hR1] at *
    have := ntSlice r1
    subst this
    exact ⟨A', c', rfl, r1, r2⟩
  have hFr : Hid (∀ W A c, Rd W W.heap.size (.slice A m c) (cellsB d) → Calls Try.prog 6 #[.slice A m c, .agg (adC to).toArray, .int .u16 (n : Int)] W fun e w' => ∃ A' c', e = .returned (.tuple #[.slice A' R0.length c', .int .i64 (E : Int)]) ∧ Rd w' w'.heap.size (.slice A' R0.length c') (cellsB R0) ∧ Below W.heap.size W w') := Lib.hid fun W A c h => by
    rw [hm] at h ⊢
    refine (ntFrom_any h (by omega) tw hn).mono ?_
    rintro e w' ⟨A', n', c', rfl, r1, r2⟩
    rw [← hEd, ← hR0] at *
    have := ntSlice r1
    subst this
    exact ⟨A', c', rfl, r1, r2⟩
  have hRw1 : Hid (∀ W A c, Rd W W.heap.size (.slice A m c) (cellsB d) → Calls Try.prog 7 #[.slice A m c, .int .i64 1, .agg (adC to).toArray, .int .u16 (n : Int)] W fun e w' => ∃ A' c', e = .returned (.tuple #[.slice A' R1.length c', .int .i64 (E : Int)]) ∧ Rd w' w'.heap.size (.slice A' R1.length c') (cellsB R1) ∧ Below W.heap.size W w') := Lib.hid fun W A c h => by
    rw [hm] at h ⊢
    refine (rrewrite_any h (by omega) (which := 1) (.inr rfl) rfl tw hn).mono ?_
    rintro e w' ⟨A', n', c', rfl, r1, r2⟩
    rw [← hEd, ← hR1] at *
    have := ntSlice r1
    subst this
    exact ⟨A', c', rfl, r1, r2⟩
  have hRw0 : Hid (∀ W A c, Rd W W.heap.size (.slice A m c) (cellsB d) → Calls Try.prog 7 #[.slice A m c, .int .i64 0, .agg (adC to).toArray, .int .u16 (n : Int)] W fun e w' => ∃ A' c', e = .returned (.tuple #[.slice A' R0.length c', .int .i64 (E : Int)]) ∧ Rd w' w'.heap.size (.slice A' R0.length c') (cellsB R0) ∧ Below W.heap.size W w') := Lib.hid fun W A c h => by
    rw [hm] at h ⊢
    refine (rrewrite_any h (by omega) (which := 0) (.inl rfl) rfl tw hn).mono ?_
    rintro e w' ⟨A', n', c', rfl, r1, r2⟩
    rw [← hEd, ← hR0] at *
    have := ntSlice r1
    subst this
    exact ⟨A', c', rfl, r1, r2⟩
  have hAp : Hid (∀ W A c, Rd W W.heap.size (.slice A m c) (cellsB d) → ∃ A' c' w2, (Builtin.append_ #[22, 22] 22 #[.slice (some ⟨W.heap.size, 0, none⟩) 0 0, .slice A m c]).run Try.prog (W.alloc (.cells #[] 5)) = .ok (.slice A' m c') w2 ∧ Rd w2 w2.heap.size (.slice A' m c') (cellsB d) ∧ Below W.heap.size W w2) := Lib.hid fun W A c h => by
    obtain ⟨v2, w2, r2, m2, b2⟩ := mine_more (l := []) (Mine.empty W W.heap.size 5 (Nat.le_refl _)) (by simp) (x := .slice A m c) (m := d) ((h.alloc (Nat.le_refl _) _).more (by simp)) (by simp; omega)
    obtain ⟨A', c', rfl, hr'⟩ := mine_slice (w := W) (l := d) m2 hm.symm
    exact ⟨A', c', w2, r2, hr', (up_alloc (Below.refl W.heap.size W) _).trans b2⟩
  have hrow : Hid (∀ W, Below X.heap.size X W → W.heap[w.heap.size]? = some (.cells (adC to).toArray 25 (0, 0))) := Lib.hid fun W hW => (hW.block _ (by omega)).trans hb4
  have hup : Hid (∀ W, Below X.heap.size X W → Below w.heap.size w W) := Lib.hid fun W hW => up hbX hW
  have hyw := pkP_wide d
  obtain ⟨y, hy⟩ : ∃ y, y = pkRead d := ⟨_, rfl⟩
  obtain ⟨er, her⟩ : ∃ er, er = pkErr d := ⟨_, rfl⟩
  rw [← hy] at hyw
  have hrr : Hid (∀ W A c, Rd W W.heap.size (.slice A m c) (cellsB d) → Calls Try.prog 8 #[.slice A m c] W fun e w' => e = .returned (.tuple #[.agg (pkC y).toArray, .int .i64 (er : Int)]) ∧ Below W.heap.size W w') := Lib.hid fun W A c hr => by
    rw [hm] at hr ⊢
    rw [hy, her]
    exact rpkParse_any hr
  have hzp : ∀ w, (zeroValue 39).run Try.prog w = .ok (.agg (pkC Pk.none).toArray) w := zero_pk
  have hSt : Hid (∀ (x : Pk), x.Wide → ∀ W : World, ∃ W', (storeCells ⟨W.heap.size, 0, none⟩ (pkC x)).run Try.prog (W.alloc (.cells (pkC Pk.none).toArray 39)) = .ok () W' ∧ Below W.heap.size W W' ∧ W.heap.size < W'.heap.size ∧ PkAt W' W.heap.size x) := Lib.hid fun x hx W => by
    obtain ⟨W', _, hat, hgr, hsz, hsc⟩ := store_pk (w := W.alloc (.cells (pkC Pk.none).toArray 39)) (g := W.heap.size) (a := Pk.none) (b := x) (heap_alloc_last W _) Pk.none_wide hx
    exact ⟨W', hsc, grown_below (up_alloc (Below.refl _ _) _) hgr (Nat.le_refl _), by rw [hsz]; simp, hat⟩
  have hyl := pkC_length hyw
  have hSty := Lib.hid (hSt.out y hyw)
  rw [← hEd] at hE
  obtain ⟨z1, z2, z3, z4⟩ := ntErr_zero (hEd ▸ hE : ntErr d to n = 0)
  have hM := ntMay z1 (which := 1) (.inr rfl) tw z3
  obtain ⟨u1, u2, u3, _⟩ := ntRes_ok (l := d) (which := 1) (.inr rfl) tw hn (hEd ▸ hE)
  obtain ⟨v1, v2, v3, _⟩ := ntRes_ok (l := d) (which := 0) (.inl rfl) tw hn (hEd ▸ hE)
  rw [← hR1] at u1 u2 u3
  rw [← hR0] at v1 v2 v3
  rw [← hy] at u2 v2 hM
  obtain ⟨U, hU⟩ : ∃ U, U = ntPk y 1 to n := ⟨_, rfl⟩
  obtain ⟨V, hV⟩ : ∃ V, V = ntPk y 0 to n := ⟨_, rfl⟩
  rw [← hU] at u2
  rw [← hV] at v2
  have hUw : U.Wide := by rw [← u2]; exact pkP_wide R1
  have hVw : V.Wide := by rw [← v2]; exact pkP_wide R0
  have her0 : er = 0 := by rw [her]; exact z1
  subst her0
  subst hE
  have hPu : Hid (∀ W A c, Rd W W.heap.size (.slice A R1.length c) (cellsB R1) → Calls Try.prog 8 #[.slice A R1.length c] W fun e w' => e = .returned (.tuple #[.agg (pkC U).toArray, .int .i64 0]) ∧ Below W.heap.size W w') := Lib.hid fun W A c hr => by
    have := rpkParse_any hr
    rw [u1, u2] at this
    exact this
  have hPv : Hid (∀ W A c, Rd W W.heap.size (.slice A R0.length c) (cellsB R0) → Calls Try.prog 8 #[.slice A R0.length c] W fun e w' => e = .returned (.tuple #[.agg (pkC V).toArray, .int .i64 0]) ∧ Below W.heap.size W w') := Lib.hid fun W A c hr => by
    have := rpkParse_any hr
    rw [v1, v2] at this
    exact this
  have hStu := Lib.hid (hSt.out U hUw)
  have hStv := Lib.hid (hSt.out V hVw)
  have hul := pkC_length hUw
  have hvl := pkC_length hVw
  obtain ⟨q1, q2, q3, q4⟩ := hM.sum
  have hS1 : Hid (∀ W A c A2 c2, Rd W W.heap.size (.slice A R1.length c) (cellsB R1) → Rd W W.heap.size (.slice A2 R1.length c2) (cellsB R1) → Calls Try.prog 10 #[.slice A R1.length c, .slice A2 R1.length c2, .agg (pkC y).toArray] W fun e w' => e = .returned (.bool true) ∧ Below W.heap.size W w') := Lib.hid fun W A c A2 c2 h1 h2 => ntSame_any h1 h2 (by omega) hyw hM.at_ ⟨hM.low.1, by have := hM.few; omega⟩ q1 (by have := hM.few; omega)
  have hS0 : Hid (∀ W A c A2 c2, Rd W W.heap.size (.slice A R0.length c) (cellsB R0) → Rd W W.heap.size (.slice A2 R0.length c2) (cellsB R0) → Calls Try.prog 10 #[.slice A R0.length c, .slice A2 R0.length c2, .agg (pkC y).toArray] W fun e w' => e = .returned (.bool true) ∧ Below W.heap.size W w') := Lib.hid fun W A c A2 c2 h1 h2 => ntSame_any h1 h2 (by omega) hyw hM.at_ ⟨hM.low.1, by have := hM.few; omega⟩ q1 (by have := hM.few; omega)
  have hxi := info_pk hyw
  have hxu := info_pk hUw
  have hxv := info_pk hVw
  have heu : ∀ W, (binOp .eql 39 (.agg (pkC U).toArray) (.agg (pkC U).toArray)).run Try.prog W = .ok (.bool true) W := fun W => by
    have := eql_pk U U hUw hUw W
    rwa [decide_eq_true rfl] at this
  have hev : ∀ W, (binOp .eql 39 (.agg (pkC V).toArray) (.agg (pkC V).toArray)).run Try.prog W = .ok (.bool true) W := fun W => by
    have := eql_pk V V hVw hVw W
    rwa [decide_eq_true rfl] at this
  have hStz : Hid (∀ (W : World) (g : Nat), W.heap[g]? = some (.cells (pkC Pk.none).toArray 39 (0, 0)) → ∃ W', (Instr.storeAt 39 (.pointer (some ⟨g, 0, none⟩)) (.agg (pkC y).toArray)).run Try.prog W = .ok () W' ∧ PkAt W' g y ∧ W.grownBy W' (some g)) := Lib.hid fun W g h => by
    obtain ⟨W', h1, h2, h3, _⟩ := store_pk (a := Pk.none) (b := y) h Pk.none_wide hyw
    exact ⟨W', h1, h2, h3⟩
  have hSent : Hid (∀ W g, PkAt W g y → ∃ W1 W2 W3 W4,
      ((Instr.storeAt 25 (.pointer (some ⟨g, 20, none⟩)) (.agg (adC to).toArray)).run Try.prog W = .ok () W1 ∧ W.grownBy W1 (some g)) ∧
      ((Instr.storeAt 25 (.pointer (some ⟨g, 62, none⟩)) (.agg (adC to).toArray)).run Try.prog W1 = .ok () W2 ∧ W1.grownBy W2 (some g)) ∧
      ((Instr.storeAt 26 (.pointer (some ⟨g, 80, none⟩)) (.int .u16 (n : Int))).run Try.prog W2 = .ok () W3 ∧ W2.grownBy W3 (some g)) ∧
      ((Instr.storeAt 26 (.pointer (some ⟨g, 40, none⟩)) (.int .u16 (n : Int))).run Try.prog W3 = .ok () W4 ∧ W3.grownBy W4 (some g)) ∧ W4.rangeAt g 0 (pkC U)) := Lib.hid fun W g h => by
    obtain ⟨W1, W2, W3, W4, h1, h2, h3, h4, h5⟩ := h.sent hyw tw n
    exact ⟨W1, W2, W3, W4, h1, h2, h3, h4, by rw [hU]; exact row_range h5⟩
  have hCome : Hid (∀ W g, PkAt W g y → ∃ W1 W2 W3 W4,
      ((Instr.storeAt 25 (.pointer (some ⟨g, 3, none⟩)) (.agg (adC to).toArray)).run Try.prog W = .ok () W1 ∧ W.grownBy W1 (some g)) ∧
      ((Instr.storeAt 25 (.pointer (some ⟨g, 45, none⟩)) (.agg (adC to).toArray)).run Try.prog W1 = .ok () W2 ∧ W1.grownBy W2 (some g)) ∧
      ((Instr.storeAt 26 (.pointer (some ⟨g, 79, none⟩)) (.int .u16 (n : Int))).run Try.prog W2 = .ok () W3 ∧ W2.grownBy W3 (some g)) ∧
      ((Instr.storeAt 26 (.pointer (some ⟨g, 39, none⟩)) (.int .u16 (n : Int))).run Try.prog W3 = .ok () W4 ∧ W3.grownBy W4 (some g)) ∧ W4.rangeAt g 0 (pkC V)) := Lib.hid fun W g h => by
    obtain ⟨W1, W2, W3, W4, h1, h2, h3, h4, h5⟩ := h.come hyw tw n
    exact ⟨W1, W2, W3, W4, h1, h2, h3, h4, by rw [hV]; exact row_range h5⟩
  have hRg : Hid (∀ {W : World} {g : Nat} {x : Pk}, PkAt W g x → W.rangeAt g 0 (pkC x)) := Lib.hid fun h => row_range h
  have hRow15 : Hid (∀ {W : World} {g : Nat}, PkAt W g y → W.heap[g]? = some (.cells (pkC y).toArray 39 (0, 0))) := Lib.hid fun h => h
  have hRgy : Hid (∀ {W : World} {g : Nat}, PkAt W g y → W.rangeAt g 0 (pkC y)) := Lib.hid fun h => row_range h
  have hRgu : Hid (∀ {W : World} {g : Nat}, PkAt W g U → W.rangeAt g 0 (pkC U)) := Lib.hid fun h => row_range h
  have hRgv : Hid (∀ {W : World} {g : Nat}, PkAt W g V → W.rangeAt g 0 (pkC V)) := Lib.hid fun h => row_range h
  clear hr hd hm hXs hbX hb4 hEd hR1 hR0 hdl hn tw hy hSt hyw z1 z2 z3 z4 hM u1 u2 u3 v1 v2 v3 hU hV hUw hVw q1 q2 q3 q4 her hRg
  generalize hPU : pkC U = PU at *
  generalize hPV : pkC V = PV at *
  clear hPU hPV
  generalize hZZ : pkC Pk.none = ZP at *
  generalize hAA : adC to = AC at *
  clear hZZ hAA
  generalize hPY : pkC y = PC at *
  generalize hnn1 : R1.length = n1 at *
  generalize hnn0 : R0.length = n0 at *
  clear hnn1 hnn0
  subst hX
  clear hPY
  go_enter Try.func3, Try.ntmps3
  go_wp2_with (go_at_call 4; refine hfew.out.mono ?_; rintro _ w1 ⟨A1, c1, rfl, hr1, hb1⟩; have HR1 := Lib.hid hr1; have HB := Lib.hid hb1; clear hr1 hb1)
  have HBd1 := Lib.hid (up HB.out (drew_self w1))
  replace HR1 := Lib.hid (show Rd w1.drew w1.drew.heap.size (.slice A1 m c1) (cellsB d) from (HR1.out.below (drew_self _)).more (drew_self _).size)
  refine wp_region_held_drew (S := fun w' => w'.heap[w.heap.size]? = some (.cells AC.toArray 25 (0, 0))) (by kernel_rfl) (hrow.out _ HBd1.out) (fun hHeld => ?_)
  refine th 1 ?_
  go_frame
  refine th 3 (v := .agg AC.toArray) ?_ (hy := fun wy hSw => by exact exec_load (t := 25) (x := .tmp 4) rfl (pv := .pointer (some ⟨w.heap.size, 0, none⟩)) rfl (run_loadAt_mid wy w.heap.size 0 25 AC _ (row_range hSw) Try.underlying25 rfl hi2))
  go_frame
  refine th 4 ?_
  go_frame
  refine wpAnyH_ready (rs := [0]) (by kernel_rfl) (by simp) (AllReadyH.cons (o := ⟨some 26, .buildSlice 22 0 #[], _, _, _, none⟩) rfl (fun K hK => ?_) AllReadyH.nil)
  rw [if_pos (by kernel_rfl)]
  go_simp
  refine hK.out _ _ (hrow.out _ (up_alloc HBd1.out (.cells #[] 5))) (fun _ => ?_)
  clear hK K
  try go_frame
  refine wpAnyH_ready (rs := [2]) (by kernel_rfl) (by simp) (AllReadyH.cons (o := ⟨some 28, .call { callee := .builtin .append, args := #[.tmp 26, .tmp 27], argTypes := #[22, 22] }, 22, _, _, none⟩) rfl (fun K hK => ?_) AllReadyH.nil)
  rw [if_pos (by kernel_rfl)]
  obtain ⟨Awa, cwa, wa, hrunwa, hrwa, hbwa⟩ := hAp.out _ _ _ HR1.out
  refine wp_run (.slice Awa m cwa) wa (exec_append rfl (u := .slice (some ⟨w1.drew.heap.size, 0, none⟩) 0 0) rfl (v := .slice A1 m c1) rfl hrunwa) ?_
  replace HB := Lib.hid (up HBd1.out hbwa)
  replace HR1 := Lib.hid ((HR1.out.below hbwa).more hbwa.size)
  have HRa := Lib.hid hrwa
  clear hrunwa hrwa hbwa HBd1
  refine hK.out _ _ (hrow.out _ HB.out) (fun _ => ?_)
  clear hK K
  try go_frame
  refine wpAnyH_ready (rs := [5]) (by kernel_rfl) (by simp) (AllReadyH.cons (o := ⟨some 31, .call { callee := .value (.func 5), args := #[.tmp 28, .tmp 29, .tmp 30], argTypes := #[22, 25, 26] }, _, _, _, none⟩) rfl (fun K hK => ?_) AllReadyH.nil)
  rw [if_pos (by kernel_rfl)]
  go_simp
  refine (hTo.out _ _ _ HRa.out).mono ?_
  rintro _ w3 ⟨A3, c3, rfl, hr3, hb3⟩
  replace HB := Lib.hid (up HB.out hb3)
  replace HR1 := Lib.hid ((HR1.out.below hb3).more hb3.size)
  have HR3 := Lib.hid hr3
  clear hr3 hb3 HRa
  dsimp only
  refine hK.out _ _ (hrow.out _ HB.out) (fun _ => ?_)
  clear hK K
  try go_frame
  refine th 6 ?_
  go_frame
  refine th 7 ?_
  go_frame
  refine th 8 ?_
  go_frame
  refine th 9 ?_
  go_frame
  refine th 10 ?_
  go_frame
  refine wpAnyH_done (by kernel_rfl) ?_ _
  go_wp2_with fail
  have HBd0 := Lib.hid (up HB.out (drew_self w3))
  replace HR1 := Lib.hid (show Rd w3.drew w3.drew.heap.size (.slice A1 m c1) (cellsB d) from (HR1.out.below (drew_self _)).more (drew_self _).size)
  refine wp_region_held_drew (S := fun w' => w'.heap[w.heap.size]? = some (.cells AC.toArray 25 (0, 0))) (by kernel_rfl) (hrow.out _ HBd0.out) (fun hHeld => ?_)
  refine th 1 ?_
  go_frame
  refine th 3 (v := .agg AC.toArray) ?_ (hy := fun wy hSw => by exact exec_load (t := 25) (x := .tmp 4) rfl (pv := .pointer (some ⟨w.heap.size, 0, none⟩)) rfl (run_loadAt_mid wy w.heap.size 0 25 AC _ (row_range hSw) Try.underlying25 rfl hi2))
  go_frame
  refine th 4 ?_
  go_frame
  refine wpAnyH_ready (rs := [0]) (by kernel_rfl) (by simp) (AllReadyH.cons (o := ⟨some 35, .buildSlice 22 0 #[], _, _, _, none⟩) rfl (fun K hK => ?_) AllReadyH.nil)
  rw [if_pos (by kernel_rfl)]
  go_simp
  refine hK.out _ _ (hrow.out _ (up_alloc HBd0.out (.cells #[] 5))) (fun _ => ?_)
  clear hK K
  try go_frame
  refine wpAnyH_ready (rs := [2]) (by kernel_rfl) (by simp) (AllReadyH.cons (o := ⟨some 37, .call { callee := .builtin .append, args := #[.tmp 35, .tmp 36], argTypes := #[22, 22] }, 22, _, _, none⟩) rfl (fun K hK => ?_) AllReadyH.nil)
  rw [if_pos (by kernel_rfl)]
  obtain ⟨Awb, cwb, wb, hrunwb, hrwb, hbwb⟩ := hAp.out _ _ _ HR1.out
  refine wp_run (.slice Awb m cwb) wb (exec_append rfl (u := .slice (some ⟨w3.drew.heap.size, 0, none⟩) 0 0) rfl (v := .slice A1 m c1) rfl hrunwb) ?_
  replace HB := Lib.hid (up HBd0.out hbwb)
  replace HR1 := Lib.hid ((HR1.out.below hbwb).more hbwb.size)
  have HRa := Lib.hid hrwb
  replace HR3 := Lib.hid ((HR3.out.below ((drew_self w3).trans hbwb)).more ((drew_self w3).trans hbwb).size)
  clear hrunwb hrwb hbwb HBd0
  refine hK.out _ _ (hrow.out _ HB.out) (fun _ => ?_)
  clear hK K
  try go_frame
  refine wpAnyH_ready (rs := [5]) (by kernel_rfl) (by simp) (AllReadyH.cons (o := ⟨some 40, .call { callee := .value (.func 6), args := #[.tmp 37, .tmp 38, .tmp 39], argTypes := #[22, 25, 26] }, _, _, _, none⟩) rfl (fun K hK => ?_) AllReadyH.nil)
  rw [if_pos (by kernel_rfl)]
  go_simp
  refine (hFr.out _ _ _ HRa.out).mono ?_
  rintro _ w5 ⟨A5, c5, rfl, hr5, hb5⟩
  replace HB := Lib.hid (up HB.out hb5)
  replace HR1 := Lib.hid ((HR1.out.below hb5).more hb5.size)
  have HR5 := Lib.hid hr5
  replace HR3 := Lib.hid ((HR3.out.below hb5).more hb5.size)
  clear hr5 hb5 HRa
  dsimp only
  refine hK.out _ _ (hrow.out _ HB.out) (fun _ => ?_)
  clear hK K
  try go_frame
  refine th 6 ?_
  go_frame
  refine th 7 ?_
  go_frame
  refine th 8 ?_
  go_frame
  refine th 9 ?_
  go_frame
  refine th 10 ?_
  go_frame
  refine wpAnyH_done (by kernel_rfl) ?_ _
  have hr4 := hrow.out _ HB.out
  go_wp2_with (first
    | ((with_reducible refine wpList_load_row (o := ⟨some 45, .load 25 (.tmp 4), _, _, _, _⟩) rfl 25 (.tmp 4) rfl w.heap.size ?_ 25 AC.toArray (0, 0) _ hr4 Try.underlying25 rfl hi ?_); exact rfl)
    | ((with_reducible refine wpList_load_row (o := ⟨some 52, .load 25 (.tmp 4), _, _, _, _⟩) rfl 25 (.tmp 4) rfl w.heap.size ?_ 25 AC.toArray (0, 0) _ hr4 Try.underlying25 rfl hi ?_); exact rfl)
    | (go_at_call 7; first | (refine (hRw1.out _ _ _ HR1.out).mono ?_; rintro _ w6 ⟨A6, c6, rfl, hr6, hb6⟩; replace HB := Lib.hid (up HB.out hb6); replace HR1 := Lib.hid ((HR1.out.below hb6).more hb6.size); replace HR3 := Lib.hid ((HR3.out.below hb6).more hb6.size); replace HR5 := Lib.hid ((HR5.out.below hb6).more hb6.size); have HR6 := Lib.hid hr6; clear hr6 hb6 hr4 hRw1; have hr4 := hrow.out _ HB.out) | (refine (hRw0.out _ _ _ HR1.out).mono ?_; rintro _ w7 ⟨A7, c7, rfl, hr7, hb7⟩; replace HB := Lib.hid (up HB.out hb7); replace HR1 := Lib.hid ((HR1.out.below hb7).more hb7.size); replace HR3 := Lib.hid ((HR3.out.below hb7).more hb7.size); replace HR5 := Lib.hid ((HR5.out.below hb7).more hb7.size); replace HR6 := Lib.hid ((HR6.out.below hb7).more hb7.size); have HR7 := Lib.hid hr7; clear hr7 hb7 hr4 hRw0))
    | (go_at_call 8; first | (refine (hrr.out _ _ _ HR1.out).mono ?_; rintro _ w8 ⟨rfl, hb8⟩; obtain ⟨w9, hst9, hb9, hlt9, hat9⟩ := hSty.out w8; have hb89 := up hb8 hb9; replace HR3 := Lib.hid ((HR3.out.below hb89).more hb89.size); replace HR5 := Lib.hid ((HR5.out.below hb89).more hb89.size); replace HR6 := Lib.hid ((HR6.out.below hb89).more hb89.size); replace HR7 := Lib.hid ((HR7.out.below hb89).more hb89.size); replace HB := Lib.hid (up HB.out hb89); have H15 := Lib.hid (And.intro hat9 hlt9); clear hb8 hb9 hb89 hlt9 hat9 HR1 hrr hSty) | (refine (hPu.out _ _ _ HR3.out).mono ?_; rintro _ w10 ⟨rfl, hb10⟩; obtain ⟨w11, hst11, hb11, hlt11, hat11⟩ := hStu.out w10; have hbb := up hb10 hb11; replace HR3 := Lib.hid ((HR3.out.below hbb).more hbb.size); replace HR5 := Lib.hid ((HR5.out.below hbb).more hbb.size); replace HR6 := Lib.hid ((HR6.out.below hbb).more hbb.size); replace HR7 := Lib.hid ((HR7.out.below hbb).more hbb.size); replace HB := Lib.hid (up HB.out hbb); replace H15 := Lib.hid (And.intro (H15.out.1.below hbb H15.out.2) (Nat.lt_of_lt_of_le H15.out.2 hbb.size)); have H17 := Lib.hid (And.intro hat11 hlt11); clear hb10 hb11 hbb hlt11 hat11 hPu hStu) | (refine (hPv.out _ _ _ HR5.out).mono ?_; rintro _ w12 ⟨rfl, hb12⟩; obtain ⟨w13, hst13, hb13, hlt13, hat13⟩ := hStv.out w12; have hbb := up hb12 hb13; replace HR3 := Lib.hid ((HR3.out.below hbb).more hbb.size); replace HR5 := Lib.hid ((HR5.out.below hbb).more hbb.size); replace HR6 := Lib.hid ((HR6.out.below hbb).more hbb.size); replace HR7 := Lib.hid ((HR7.out.below hbb).more hbb.size); replace HB := Lib.hid (up HB.out hbb); replace H15 := Lib.hid (And.intro (H15.out.1.below hbb H15.out.2) (Nat.lt_of_lt_of_le H15.out.2 hbb.size)); replace H17 := Lib.hid (And.intro (H17.out.1.below hbb H17.out.2) (Nat.lt_of_lt_of_le H17.out.2 hbb.size)); have H19 := Lib.hid (And.intro hat13 hlt13); clear hb12 hb13 hbb hlt13 hat13 hPv hStv))
    | (with_reducible refine wpList_alloc_zero (o := ⟨some 15, .alloc 39, _, _, _, _⟩) rfl 39 rfl ZP.toArray hzp ?_)
    | (with_reducible refine wpList_alloc_zero (o := ⟨some 17, .alloc 39, _, _, _, _⟩) rfl 39 rfl ZP.toArray hzp ?_)
    | (with_reducible refine wpList_alloc_zero (o := ⟨some 19, .alloc 39, _, _, _, _⟩) rfl 39 rfl ZP.toArray hzp ?_))
  obtain ⟨g15, hg15⟩ : ∃ g, g = w8.heap.size := ⟨_, rfl⟩
  obtain ⟨g17, hg17⟩ : ∃ g, g = w10.heap.size := ⟨_, rfl⟩
  obtain ⟨g19, hg19⟩ : ∃ g, g = w12.heap.size := ⟨_, rfl⟩
  rw [← hg15] at H15 ⊢
  rw [← hg17] at H17 ⊢
  rw [← hg19] at H19 ⊢
  clear hst9 hst11 hst13 hg15 hg17 hg19 hfew hTo hFr hAp
  have HRows : Hid (∀ W, Below w13.heap.size w13 W → W.heap[w.heap.size]? = some (.cells AC.toArray 25 (0, 0)) ∧ W.heap[g15]? = some (.cells PC.toArray 39 (0, 0)) ∧ W.rangeAt g15 0 PC ∧ W.rangeAt g17 0 PU ∧ W.rangeAt g19 0 PV) := Lib.hid fun W hW => ⟨hrow.out _ (up HB.out hW), hRow15.out (H15.out.1.below hW H15.out.2), hRgy.out (H15.out.1.below hW H15.out.2), hRgu.out (H17.out.1.below hW H17.out.2), hRgv.out (H19.out.1.below hW H19.out.2)⟩
  have HC := Lib.hid (drew_self w13)
  refine wp_region_held_drew (S := fun w' => w'.rangeAt g15 0 PC) (by kernel_rfl) (HRows.out _ HC.out).2.2.1 (fun hHeld => ?_)
  refine th 0 (v := .agg PC.toArray) ?_ (hy := fun wy hSw => by exact exec_load (t := 39) (x := .tmp 15) rfl (pv := .pointer (some ⟨g15, 0, none⟩)) rfl (run_loadAt_mid wy g15 0 39 PC _ hSw Try.underlying39 rfl hxi))
  go_frame
  refine th 1 (v := .agg PC.toArray) ?_ (hy := fun wy hSw => by exact exec_load (t := 39) (x := .tmp 15) rfl (pv := .pointer (some ⟨g15, 0, none⟩)) rfl (run_loadAt_mid wy g15 0 39 PC _ hSw Try.underlying39 rfl hxi))
  go_frame
  refine wpAnyH_ready (rs := [2, 3]) (by kernel_rfl) (by simp) (AllReadyH.cons (o := ⟨some 21, .alloc 39, _, _, _, none⟩) rfl (fun K hK => ?_) (AllReadyH.cons (o := ⟨some 22, .alloc 39, _, _, _, none⟩) rfl (fun K hK => ?_) AllReadyH.nil))
  · rw [if_pos (by kernel_rfl)]
    obtain ⟨g21, hg1⟩ : ∃ g, g = w13.drew.heap.size := ⟨_, rfl⟩
    refine wp_run (.pointer (some ⟨g21, 0, none⟩)) _ (by rw [hg1]; exact exec_allocP rfl hzp _) ?_
    have ha := heap_alloc_last w13.drew (.cells ZP.toArray 39)
    have hb := up_alloc HC.out (.cells ZP.toArray 39)
    have hle : w13.heap.size ≤ w13.drew.heap.size := HC.out.size
    rw [← hg1] at ha hle
    generalize w13.drew.alloc (.cells ZP.toArray 39) = wc at ha hb ⊢
    replace HC := Lib.hid hb
    have H1 := Lib.hid (And.intro ha hle)
    clear ha hb hle hg1
    refine hK.out _ _ ((HRows.out _ HC.out).2.2.1) (fun _ => ?_)
    clear hK K
    try go_frame
    refine wpAnyH_ready (rs := [3]) (by kernel_rfl) (by simp) (AllReadyH.cons (o := ⟨some 22, .alloc 39, _, _, _, none⟩) rfl (fun K hK => ?_) AllReadyH.nil)
    rw [if_pos (by kernel_rfl)]
    obtain ⟨g22, hg2⟩ : ∃ g, g = wc.heap.size := ⟨_, rfl⟩
    refine wp_run (.pointer (some ⟨g22, 0, none⟩)) _ (by rw [hg2]; exact exec_allocP rfl hzp _) ?_
    have ha := heap_alloc_last wc (.cells ZP.toArray 39)
    have hb := up_alloc HC.out (.cells ZP.toArray 39)
    have ho := (heap_alloc_old wc (.cells ZP.toArray 39) (Array.getElem?_eq_some_iff.1 H1.out.1).1).trans H1.out.1
    have hle : w13.heap.size ≤ wc.heap.size := HC.out.size
    have hne : g21 < wc.heap.size := (Array.getElem?_eq_some_iff.1 H1.out.1).1
    rw [← hg2] at ha hle hne
    generalize wc.alloc (.cells ZP.toArray 39) = wd at ha hb ho ⊢
    replace HC := Lib.hid hb
    have HA : Hid (wd.heap[g21]? = some (.cells ZP.toArray 39 (0, 0)) ∧ wd.heap[g22]? = some (.cells ZP.toArray 39 (0, 0)) ∧ w13.heap.size ≤ g21 ∧ w13.heap.size ≤ g22 ∧ g21 ≠ g22) := Lib.hid ⟨ho, ha, H1.out.2, hle, Nat.ne_of_lt hne⟩
    clear ha hb ho hle hne hg2 H1
    refine hK.out _ _ ((HRows.out _ HC.out).2.2.1) (fun _ => ?_)
    clear hK K
    try go_frame
    refine wpAnyH_ready (rs := [4]) (by kernel_rfl) (by simp) (AllReadyH.cons (o := ⟨none, .store 39 (.tmp 21) (.tmp 97), _, _, _, none⟩) rfl (fun K hK => ?_) AllReadyH.nil)
    rw [if_pos (by kernel_rfl)]
    obtain ⟨we, hste, hate, hgre⟩ := hStz.out wd g21 HA.out.1
    refine wp_skip we (exec_store rfl (vx := .pointer (some ⟨g21, 0, none⟩)) rfl (vy := .agg PC.toArray) rfl hste) ?_
    have h22 := (hgre.block g22 (Array.getElem?_eq_some_iff.1 HA.out.2.1).1 (fun e => HA.out.2.2.2.2 (Option.some.inj e).symm)).trans HA.out.2.1
    replace HC := Lib.hid (grown_below HC.out hgre HA.out.2.2.1)
    have HN := Lib.hid HA.out.2.2
    have H21 := Lib.hid hate
    have H22 := Lib.hid h22
    clear hste hate hgre h22 HA
    refine hK.out _ _ ((HRows.out _ HC.out).2.2.1) (fun _ => ?_)
    clear hK K
    try go_frame
    refine wpAnyH_ready (rs := [5]) (by kernel_rfl) (by simp) (AllReadyH.cons (o := ⟨none, .store 39 (.tmp 22) (.tmp 98), _, _, _, none⟩) rfl (fun K hK => ?_) AllReadyH.nil)
    rw [if_pos (by kernel_rfl)]
    obtain ⟨wf, hstf, hatf, hgrf⟩ := hStz.out we g22 H22.out
    refine wp_skip wf (exec_store rfl (vx := .pointer (some ⟨g22, 0, none⟩)) rfl (vy := .agg PC.toArray) rfl hstf) ?_
    have h21 : PkAt wf g21 y := (hgrf.block g21 (Array.getElem?_eq_some_iff.1 H21.out).1 (fun e => HN.out.2.2 (Option.some.inj e))).trans H21.out
    replace HC := Lib.hid (grown_below HC.out hgrf HN.out.2.1)
    replace H21 := Lib.hid h21
    replace H22 := Lib.hid hatf
    clear hstf hatf hgrf h21
    refine hK.out _ _ ((HRows.out _ HC.out).2.2.1) (fun _ => ?_)
    clear hK K
    try go_frame
    refine wpAnyH_done (by kernel_rfl) ?_ _
    go_wp2_with fail
    have HLT := Lib.hid (Array.getElem?_eq_some_iff.1 H21.out).1
    have HCd := Lib.hid (HC.out.drew)
    obtain ⟨wx1, wx2, wx3, wx4, ⟨st1, gr1⟩, ⟨st2, gr2⟩, ⟨st3, gr3⟩, ⟨st4, gr4⟩, hend⟩ := hSent.out wf.drew g21 H21.out
    have HG := Lib.hid (And.intro gr1 (And.intro gr2 (And.intro gr3 gr4)))
    have HEnd := Lib.hid hend
    clear gr1 gr2 gr3 gr4 hend
    refine wp_region_held_drew (S := fun w' => w'.heap[w.heap.size]? = some (.cells AC.toArray 25 (0, 0))) (by kernel_rfl) (HRows.out _ HCd.out).1 (fun hHeld => ?_)
    refine th 0 (v := .agg AC.toArray) ?_ (hy := fun wy hSw => by exact exec_load (t := 25) (x := .tmp 4) rfl (pv := .pointer (some ⟨w.heap.size, 0, none⟩)) rfl (run_loadAt_mid wy w.heap.size 0 25 AC _ (row_range hSw) Try.underlying25 rfl hi2))
    go_frame
    refine th 1 (v := .agg AC.toArray) ?_ (hy := fun wy hSw => by exact exec_load (t := 25) (x := .tmp 4) rfl (pv := .pointer (some ⟨w.heap.size, 0, none⟩)) rfl (run_loadAt_mid wy w.heap.size 0 25 AC _ (row_range hSw) Try.underlying25 rfl hi2))
    go_frame
    refine th 2 ?_
    go_frame
    refine th 3 ?_
    go_frame
    refine th 4 ?_
    go_frame
    refine th 5 ?_
    go_frame
    refine wpAnyH_ready (rs := [6]) (by kernel_rfl) (by simp) (AllReadyH.cons (o := ⟨none, .store 25 (.tmp 104) (.tmp 99), _, _, _, none⟩) rfl (fun K hK => ?_) AllReadyH.nil)
    rw [if_pos (by kernel_rfl)]
    refine wp_skip wx1 (exec_store rfl (vx := .pointer (some ⟨g21, 20, none⟩)) rfl (vy := .agg AC.toArray) rfl st1) ?_
    replace HCd := Lib.hid (grown_below HCd.out HG.out.1 HN.out.1)
    refine hK.out _ _ ((HRows.out _ HCd.out).1) (fun _ => ?_)
    clear hK K
    try go_frame
    refine th 7 ?_
    go_frame
    refine th 8 ?_
    go_frame
    refine wpAnyH_ready (rs := [9]) (by kernel_rfl) (by simp) (AllReadyH.cons (o := ⟨none, .store 25 (.tmp 106) (.tmp 100), _, _, _, none⟩) rfl (fun K hK => ?_) AllReadyH.nil)
    rw [if_pos (by kernel_rfl)]
    refine wp_skip wx2 (exec_store rfl (vx := .pointer (some ⟨g21, 62, none⟩)) rfl (vy := .agg AC.toArray) rfl st2) ?_
    replace HCd := Lib.hid (grown_below HCd.out HG.out.2.1 HN.out.1)
    refine hK.out _ _ ((HRows.out _ HCd.out).1) (fun _ => ?_)
    clear hK K
    try go_frame
    refine th 10 ?_
    go_frame
    refine th 11 ?_
    go_frame
    refine wpAnyH_ready (rs := [12]) (by kernel_rfl) (by simp) (AllReadyH.cons (o := ⟨none, .store 26 (.tmp 108) (.tmp 101), _, _, _, none⟩) rfl (fun K hK => ?_) AllReadyH.nil)
    rw [if_pos (by kernel_rfl)]
    refine wp_skip wx3 (exec_store rfl (vx := .pointer (some ⟨g21, 80, none⟩)) rfl (vy := .int .u16 (n : Int)) rfl st3) ?_
    replace HCd := Lib.hid (grown_below HCd.out HG.out.2.2.1 HN.out.1)
    refine hK.out _ _ ((HRows.out _ HCd.out).1) (fun _ => ?_)
    clear hK K
    try go_frame
    refine th 13 ?_
    go_frame
    refine th 14 ?_
    go_frame
    refine wpAnyH_ready (rs := [15]) (by kernel_rfl) (by simp) (AllReadyH.cons (o := ⟨none, .store 26 (.tmp 110) (.tmp 102), _, _, _, none⟩) rfl (fun K hK => ?_) AllReadyH.nil)
    rw [if_pos (by kernel_rfl)]
    refine wp_skip wx4 (exec_store rfl (vx := .pointer (some ⟨g21, 40, none⟩)) rfl (vy := .int .u16 (n : Int)) rfl st4) ?_
    replace HCd := Lib.hid (grown_below HCd.out HG.out.2.2.2 HN.out.1)
    refine hK.out _ _ ((HRows.out _ HCd.out).1) (fun _ => ?_)
    clear hK K
    try go_frame
    refine wpAnyH_done (by kernel_rfl) ?_ _
    replace HC := HCd
    clear HCd st1 st2 st3 st4
    have hk : ∀ k, k < wf.heap.size → k ≠ g21 → wx4.heap[k]? = wf.heap[k]? := fun k hk hne => by
      have hn' : some k ≠ some g21 := fun e => hne (Option.some.inj e)
      have s1 := HG.out.1.size
      have s2 := HG.out.2.1.size
      have s3 := HG.out.2.2.1.size
      have s0 : wf.drew.heap.size = wf.heap.size := rfl
      exact (HG.out.2.2.2.block k (by omega) hn').trans ((HG.out.2.2.1.block k (by omega) hn').trans ((HG.out.2.1.block k (by omega) hn').trans (HG.out.1.block k (by omega) hn')))
    replace H22 : Hid (PkAt wx4 g22 y) := Lib.hid ((hk _ (Array.getElem?_eq_some_iff.1 H22.out).1 (fun e => HN.out.2.2 e.symm)).trans H22.out)
    replace H21 := HEnd
    have H21lt : Hid (g21 < wx4.heap.size) := Lib.hid (by have := HLT.out; have s1 := HG.out.1.size; have s2 := HG.out.2.1.size; have s3 := HG.out.2.2.1.size; have s4 := HG.out.2.2.2.size; have s0 : wf.drew.heap.size = wf.heap.size := rfl; omega)
    clear hk HG HEnd HLT
    go_wp2_with fail
    have HCd := Lib.hid (HC.out.drew)
    obtain ⟨wz1, wz2, wz3, wz4, ⟨st1, gr1⟩, ⟨st2, gr2⟩, ⟨st3, gr3⟩, ⟨st4, gr4⟩, hend⟩ := hCome.out wx4.drew g22 H22.out
    have HG := Lib.hid (And.intro gr1 (And.intro gr2 (And.intro gr3 gr4)))
    have HEnd := Lib.hid hend
    clear gr1 gr2 gr3 gr4 hend
    refine wp_region_held_drew (S := fun w' => w'.heap[w.heap.size]? = some (.cells AC.toArray 25 (0, 0))) (by kernel_rfl) (HRows.out _ HCd.out).1 (fun hHeld => ?_)
    refine th 0 (v := .agg AC.toArray) ?_ (hy := fun wy hSw => by exact exec_load (t := 25) (x := .tmp 4) rfl (pv := .pointer (some ⟨w.heap.size, 0, none⟩)) rfl (run_loadAt_mid wy w.heap.size 0 25 AC _ (row_range hSw) Try.underlying25 rfl hi2))
    go_frame
    refine th 1 (v := .agg AC.toArray) ?_ (hy := fun wy hSw => by exact exec_load (t := 25) (x := .tmp 4) rfl (pv := .pointer (some ⟨w.heap.size, 0, none⟩)) rfl (run_loadAt_mid wy w.heap.size 0 25 AC _ (row_range hSw) Try.underlying25 rfl hi2))
    go_frame
    refine th 2 ?_
    go_frame
    refine th 3 ?_
    go_frame
    refine th 4 ?_
    go_frame
    refine th 5 ?_
    go_frame
    refine wpAnyH_ready (rs := [6]) (by kernel_rfl) (by simp) (AllReadyH.cons (o := ⟨none, .store 25 (.tmp 116) (.tmp 111), _, _, _, none⟩) rfl (fun K hK => ?_) AllReadyH.nil)
    rw [if_pos (by kernel_rfl)]
    refine wp_skip wz1 (exec_store rfl (vx := .pointer (some ⟨g22, 3, none⟩)) rfl (vy := .agg AC.toArray) rfl st1) ?_
    replace HCd := Lib.hid (grown_below HCd.out HG.out.1 HN.out.2.1)
    refine hK.out _ _ ((HRows.out _ HCd.out).1) (fun _ => ?_)
    clear hK K
    try go_frame
    refine th 7 ?_
    go_frame
    refine th 8 ?_
    go_frame
    refine wpAnyH_ready (rs := [9]) (by kernel_rfl) (by simp) (AllReadyH.cons (o := ⟨none, .store 25 (.tmp 118) (.tmp 112), _, _, _, none⟩) rfl (fun K hK => ?_) AllReadyH.nil)
    rw [if_pos (by kernel_rfl)]
    refine wp_skip wz2 (exec_store rfl (vx := .pointer (some ⟨g22, 45, none⟩)) rfl (vy := .agg AC.toArray) rfl st2) ?_
    replace HCd := Lib.hid (grown_below HCd.out HG.out.2.1 HN.out.2.1)
    refine hK.out _ _ ((HRows.out _ HCd.out).1) (fun _ => ?_)
    clear hK K
    try go_frame
    refine th 10 ?_
    go_frame
    refine th 11 ?_
    go_frame
    refine wpAnyH_ready (rs := [12]) (by kernel_rfl) (by simp) (AllReadyH.cons (o := ⟨none, .store 26 (.tmp 120) (.tmp 113), _, _, _, none⟩) rfl (fun K hK => ?_) AllReadyH.nil)
    rw [if_pos (by kernel_rfl)]
    refine wp_skip wz3 (exec_store rfl (vx := .pointer (some ⟨g22, 79, none⟩)) rfl (vy := .int .u16 (n : Int)) rfl st3) ?_
    replace HCd := Lib.hid (grown_below HCd.out HG.out.2.2.1 HN.out.2.1)
    refine hK.out _ _ ((HRows.out _ HCd.out).1) (fun _ => ?_)
    clear hK K
    try go_frame
    refine th 13 ?_
    go_frame
    refine th 14 ?_
    go_frame
    refine wpAnyH_ready (rs := [15]) (by kernel_rfl) (by simp) (AllReadyH.cons (o := ⟨none, .store 26 (.tmp 122) (.tmp 114), _, _, _, none⟩) rfl (fun K hK => ?_) AllReadyH.nil)
    rw [if_pos (by kernel_rfl)]
    refine wp_skip wz4 (exec_store rfl (vx := .pointer (some ⟨g22, 39, none⟩)) rfl (vy := .int .u16 (n : Int)) rfl st4) ?_
    replace HCd := Lib.hid (grown_below HCd.out HG.out.2.2.2 HN.out.2.1)
    refine hK.out _ _ ((HRows.out _ HCd.out).1) (fun _ => ?_)
    clear hK K
    try go_frame
    refine wpAnyH_done (by kernel_rfl) ?_ _
    replace HC := HCd
    clear HCd st1 st2 st3 st4
    have hk : ∀ k, k < wx4.heap.size → k ≠ g22 → wz4.heap[k]? = wx4.heap[k]? := fun k hk hne => by
      have hn' : some k ≠ some g22 := fun e => hne (Option.some.inj e)
      have s1 := HG.out.1.size
      have s2 := HG.out.2.1.size
      have s3 := HG.out.2.2.1.size
      have s0 : wx4.drew.heap.size = wx4.heap.size := rfl
      exact (HG.out.2.2.2.block k (by omega) hn').trans ((HG.out.2.2.1.block k (by omega) hn').trans ((HG.out.2.1.block k (by omega) hn').trans (HG.out.1.block k (by omega) hn')))
    have h21 : wz4.rangeAt g21 0 PU := fun j u hu => by
      have := H21.out j u hu
      rw [← this]
      exact World.cell?_of_block (hk g21 H21lt.out HN.out.2.2)
    replace H21 := Lib.hid h21
    replace H22 := HEnd
    clear hk HG HEnd h21
    have HB2 : Hid (Below _ _ wz4) := Lib.hid (up HB.out HC.out)
    obtain ⟨_, _, r15, r17, r19⟩ := HRows.out _ HC.out
    have r21 := H21.out
    have r22 := H22.out
    replace HR3 := Lib.hid ((HR3.out.below HC.out).more HC.out.size)
    replace HR5 := Lib.hid ((HR5.out.below HC.out).more HC.out.size)
    replace HR6 := Lib.hid ((HR6.out.below HC.out).more HC.out.size)
    replace HR7 := Lib.hid ((HR7.out.below HC.out).more HC.out.size)
    go_wp2_with (first
      | ((with_reducible refine wpList_load_mid_g (op := ⟨some 130, .load 39 (.tmp 17), _, _, _, _⟩) (by kernel_rfl) 39 (.tmp 17) rfl g17 0 ?_ PU _ r17 Try.underlying39 rfl hxu ?_); exact rfl)
      | ((with_reducible refine wpList_load_mid_g (op := ⟨some 131, .load 39 (.tmp 21), _, _, _, _⟩) (by kernel_rfl) 39 (.tmp 21) rfl g21 0 ?_ PU _ r21 Try.underlying39 rfl hxu ?_); exact rfl)
      | ((with_reducible refine wpList_load_mid_g (op := ⟨some 135, .load 39 (.tmp 19), _, _, _, _⟩) (by kernel_rfl) 39 (.tmp 19) rfl g19 0 ?_ PV _ r19 Try.underlying39 rfl hxv ?_); exact rfl)
      | ((with_reducible refine wpList_load_mid_g (op := ⟨some 136, .load 39 (.tmp 22), _, _, _, _⟩) (by kernel_rfl) 39 (.tmp 22) rfl g22 0 ?_ PV _ r22 Try.underlying39 rfl hxv ?_); exact rfl)
      | ((with_reducible refine wpList_load_mid_g (op := ⟨some 142, .load 39 (.tmp 15), _, _, _, _⟩) (by kernel_rfl) 39 (.tmp 15) rfl g15 0 ?_ PC _ r15 Try.underlying39 rfl hxi ?_); exact rfl)
      | ((with_reducible refine wpList_load_mid_g (op := ⟨some 148, .load 39 (.tmp 15), _, _, _, _⟩) (by kernel_rfl) 39 (.tmp 15) rfl g15 0 ?_ PC _ r15b Try.underlying39 rfl hxi ?_); exact rfl)
      | (go_at_call 10; first | (refine (hS1.out _ _ _ _ _ HR3.out HR6.out).mono ?_; rintro _ wp ⟨rfl, hbp⟩; replace HC := Lib.hid (up HC.out hbp); have r15b := (HRows.out _ HC.out).2.2.1; replace HR5 := Lib.hid ((HR5.out.below hbp).more hbp.size); replace HR7 := Lib.hid ((HR7.out.below hbp).more hbp.size); clear hbp hS1) | (refine (hS0.out _ _ _ _ _ HR5.out HR7.out).mono ?_; rintro _ wq ⟨rfl, hbq⟩; replace HC := Lib.hid (up HC.out hbq); clear hbq hS0))
      | (go_at_call 9; refine (hlv.out _).mono ?_; rintro _ wr ⟨rfl, hbr⟩; have HZ := Lib.hid (hup.out _ (up (up HB.out HC.out) hbr)); clear hbr))
    go_ret
    exact ⟨rfl, HZ.out⟩
  · rw [if_pos (by kernel_rfl)]
    obtain ⟨g22, hg1⟩ : ∃ g, g = w13.drew.heap.size := ⟨_, rfl⟩
    refine wp_run (.pointer (some ⟨g22, 0, none⟩)) _ (by rw [hg1]; exact exec_allocP rfl hzp _) ?_
    have ha := heap_alloc_last w13.drew (.cells ZP.toArray 39)
    have hb := up_alloc HC.out (.cells ZP.toArray 39)
    have hle : w13.heap.size ≤ w13.drew.heap.size := HC.out.size
    rw [← hg1] at ha hle
    generalize w13.drew.alloc (.cells ZP.toArray 39) = wc at ha hb ⊢
    replace HC := Lib.hid hb
    have H1 := Lib.hid (And.intro ha hle)
    clear ha hb hle hg1
    refine hK.out _ _ ((HRows.out _ HC.out).2.2.1) (fun _ => ?_)
    clear hK K
    try go_frame
    refine wpAnyH_ready (rs := [2]) (by kernel_rfl) (by simp) (AllReadyH.cons (o := ⟨some 21, .alloc 39, _, _, _, none⟩) rfl (fun K hK => ?_) AllReadyH.nil)
    rw [if_pos (by kernel_rfl)]
    obtain ⟨g21, hg2⟩ : ∃ g, g = wc.heap.size := ⟨_, rfl⟩
    refine wp_run (.pointer (some ⟨g21, 0, none⟩)) _ (by rw [hg2]; exact exec_allocP rfl hzp _) ?_
    have ha := heap_alloc_last wc (.cells ZP.toArray 39)
    have hb := up_alloc HC.out (.cells ZP.toArray 39)
    have ho := (heap_alloc_old wc (.cells ZP.toArray 39) (Array.getElem?_eq_some_iff.1 H1.out.1).1).trans H1.out.1
    have hle : w13.heap.size ≤ wc.heap.size := HC.out.size
    have hne : g22 < wc.heap.size := (Array.getElem?_eq_some_iff.1 H1.out.1).1
    rw [← hg2] at ha hle hne
    generalize wc.alloc (.cells ZP.toArray 39) = wd at ha hb ho ⊢
    replace HC := Lib.hid hb
    have HA : Hid (wd.heap[g21]? = some (.cells ZP.toArray 39 (0, 0)) ∧ wd.heap[g22]? = some (.cells ZP.toArray 39 (0, 0)) ∧ w13.heap.size ≤ g21 ∧ w13.heap.size ≤ g22 ∧ g21 ≠ g22) := Lib.hid ⟨ha, ho, hle, H1.out.2, Nat.ne_of_gt hne⟩
    clear ha hb ho hle hne hg2 H1
    refine hK.out _ _ ((HRows.out _ HC.out).2.2.1) (fun _ => ?_)
    clear hK K
    try go_frame
    refine wpAnyH_ready (rs := [4]) (by kernel_rfl) (by simp) (AllReadyH.cons (o := ⟨none, .store 39 (.tmp 21) (.tmp 97), _, _, _, none⟩) rfl (fun K hK => ?_) AllReadyH.nil)
    rw [if_pos (by kernel_rfl)]
    obtain ⟨we, hste, hate, hgre⟩ := hStz.out wd g21 HA.out.1
    refine wp_skip we (exec_store rfl (vx := .pointer (some ⟨g21, 0, none⟩)) rfl (vy := .agg PC.toArray) rfl hste) ?_
    have h22 := (hgre.block g22 (Array.getElem?_eq_some_iff.1 HA.out.2.1).1 (fun e => HA.out.2.2.2.2 (Option.some.inj e).symm)).trans HA.out.2.1
    replace HC := Lib.hid (grown_below HC.out hgre HA.out.2.2.1)
    have HN := Lib.hid HA.out.2.2
    have H21 := Lib.hid hate
    have H22 := Lib.hid h22
    clear hste hate hgre h22 HA
    refine hK.out _ _ ((HRows.out _ HC.out).2.2.1) (fun _ => ?_)
    clear hK K
    try go_frame
    refine wpAnyH_ready (rs := [5]) (by kernel_rfl) (by simp) (AllReadyH.cons (o := ⟨none, .store 39 (.tmp 22) (.tmp 98), _, _, _, none⟩) rfl (fun K hK => ?_) AllReadyH.nil)
    rw [if_pos (by kernel_rfl)]
    obtain ⟨wf, hstf, hatf, hgrf⟩ := hStz.out we g22 H22.out
    refine wp_skip wf (exec_store rfl (vx := .pointer (some ⟨g22, 0, none⟩)) rfl (vy := .agg PC.toArray) rfl hstf) ?_
    have h21 : PkAt wf g21 y := (hgrf.block g21 (Array.getElem?_eq_some_iff.1 H21.out).1 (fun e => HN.out.2.2 (Option.some.inj e))).trans H21.out
    replace HC := Lib.hid (grown_below HC.out hgrf HN.out.2.1)
    replace H21 := Lib.hid h21
    replace H22 := Lib.hid hatf
    clear hstf hatf hgrf h21
    refine hK.out _ _ ((HRows.out _ HC.out).2.2.1) (fun _ => ?_)
    clear hK K
    try go_frame
    refine wpAnyH_done (by kernel_rfl) ?_ _
    go_wp2_with fail
    have HLT := Lib.hid (Array.getElem?_eq_some_iff.1 H21.out).1
    have HCd := Lib.hid (HC.out.drew)
    obtain ⟨wx1, wx2, wx3, wx4, ⟨st1, gr1⟩, ⟨st2, gr2⟩, ⟨st3, gr3⟩, ⟨st4, gr4⟩, hend⟩ := hSent.out wf.drew g21 H21.out
    have HG := Lib.hid (And.intro gr1 (And.intro gr2 (And.intro gr3 gr4)))
    have HEnd := Lib.hid hend
    clear gr1 gr2 gr3 gr4 hend
    refine wp_region_held_drew (S := fun w' => w'.heap[w.heap.size]? = some (.cells AC.toArray 25 (0, 0))) (by kernel_rfl) (HRows.out _ HCd.out).1 (fun hHeld => ?_)
    refine th 0 (v := .agg AC.toArray) ?_ (hy := fun wy hSw => by exact exec_load (t := 25) (x := .tmp 4) rfl (pv := .pointer (some ⟨w.heap.size, 0, none⟩)) rfl (run_loadAt_mid wy w.heap.size 0 25 AC _ (row_range hSw) Try.underlying25 rfl hi2))
    go_frame
    refine th 1 (v := .agg AC.toArray) ?_ (hy := fun wy hSw => by exact exec_load (t := 25) (x := .tmp 4) rfl (pv := .pointer (some ⟨w.heap.size, 0, none⟩)) rfl (run_loadAt_mid wy w.heap.size 0 25 AC _ (row_range hSw) Try.underlying25 rfl hi2))
    go_frame
    refine th 2 ?_
    go_frame
    refine th 3 ?_
    go_frame
    refine th 4 ?_
    go_frame
    refine th 5 ?_
    go_frame
    refine wpAnyH_ready (rs := [6]) (by kernel_rfl) (by simp) (AllReadyH.cons (o := ⟨none, .store 25 (.tmp 104) (.tmp 99), _, _, _, none⟩) rfl (fun K hK => ?_) AllReadyH.nil)
    rw [if_pos (by kernel_rfl)]
    refine wp_skip wx1 (exec_store rfl (vx := .pointer (some ⟨g21, 20, none⟩)) rfl (vy := .agg AC.toArray) rfl st1) ?_
    replace HCd := Lib.hid (grown_below HCd.out HG.out.1 HN.out.1)
    refine hK.out _ _ ((HRows.out _ HCd.out).1) (fun _ => ?_)
    clear hK K
    try go_frame
    refine th 7 ?_
    go_frame
    refine th 8 ?_
    go_frame
    refine wpAnyH_ready (rs := [9]) (by kernel_rfl) (by simp) (AllReadyH.cons (o := ⟨none, .store 25 (.tmp 106) (.tmp 100), _, _, _, none⟩) rfl (fun K hK => ?_) AllReadyH.nil)
    rw [if_pos (by kernel_rfl)]
    refine wp_skip wx2 (exec_store rfl (vx := .pointer (some ⟨g21, 62, none⟩)) rfl (vy := .agg AC.toArray) rfl st2) ?_
    replace HCd := Lib.hid (grown_below HCd.out HG.out.2.1 HN.out.1)
    refine hK.out _ _ ((HRows.out _ HCd.out).1) (fun _ => ?_)
    clear hK K
    try go_frame
    refine th 10 ?_
    go_frame
    refine th 11 ?_
    go_frame
    refine wpAnyH_ready (rs := [12]) (by kernel_rfl) (by simp) (AllReadyH.cons (o := ⟨none, .store 26 (.tmp 108) (.tmp 101), _, _, _, none⟩) rfl (fun K hK => ?_) AllReadyH.nil)
    rw [if_pos (by kernel_rfl)]
    refine wp_skip wx3 (exec_store rfl (vx := .pointer (some ⟨g21, 80, none⟩)) rfl (vy := .int .u16 (n : Int)) rfl st3) ?_
    replace HCd := Lib.hid (grown_below HCd.out HG.out.2.2.1 HN.out.1)
    refine hK.out _ _ ((HRows.out _ HCd.out).1) (fun _ => ?_)
    clear hK K
    try go_frame
    refine th 13 ?_
    go_frame
    refine th 14 ?_
    go_frame
    refine wpAnyH_ready (rs := [15]) (by kernel_rfl) (by simp) (AllReadyH.cons (o := ⟨none, .store 26 (.tmp 110) (.tmp 102), _, _, _, none⟩) rfl (fun K hK => ?_) AllReadyH.nil)
    rw [if_pos (by kernel_rfl)]
    refine wp_skip wx4 (exec_store rfl (vx := .pointer (some ⟨g21, 40, none⟩)) rfl (vy := .int .u16 (n : Int)) rfl st4) ?_
    replace HCd := Lib.hid (grown_below HCd.out HG.out.2.2.2 HN.out.1)
    refine hK.out _ _ ((HRows.out _ HCd.out).1) (fun _ => ?_)
    clear hK K
    try go_frame
    refine wpAnyH_done (by kernel_rfl) ?_ _
    replace HC := HCd
    clear HCd st1 st2 st3 st4
    have hk : ∀ k, k < wf.heap.size → k ≠ g21 → wx4.heap[k]? = wf.heap[k]? := fun k hk hne => by
      have hn' : some k ≠ some g21 := fun e => hne (Option.some.inj e)
      have s1 := HG.out.1.size
      have s2 := HG.out.2.1.size
      have s3 := HG.out.2.2.1.size
      have s0 : wf.drew.heap.size = wf.heap.size := rfl
      exact (HG.out.2.2.2.block k (by omega) hn').trans ((HG.out.2.2.1.block k (by omega) hn').trans ((HG.out.2.1.block k (by omega) hn').trans (HG.out.1.block k (by omega) hn')))
    replace H22 : Hid (PkAt wx4 g22 y) := Lib.hid ((hk _ (Array.getElem?_eq_some_iff.1 H22.out).1 (fun e => HN.out.2.2 e.symm)).trans H22.out)
    replace H21 := HEnd
    have H21lt : Hid (g21 < wx4.heap.size) := Lib.hid (by have := HLT.out; have s1 := HG.out.1.size; have s2 := HG.out.2.1.size; have s3 := HG.out.2.2.1.size; have s4 := HG.out.2.2.2.size; have s0 : wf.drew.heap.size = wf.heap.size := rfl; omega)
    clear hk HG HEnd HLT
    go_wp2_with fail
    have HCd := Lib.hid (HC.out.drew)
    obtain ⟨wz1, wz2, wz3, wz4, ⟨st1, gr1⟩, ⟨st2, gr2⟩, ⟨st3, gr3⟩, ⟨st4, gr4⟩, hend⟩ := hCome.out wx4.drew g22 H22.out
    have HG := Lib.hid (And.intro gr1 (And.intro gr2 (And.intro gr3 gr4)))
    have HEnd := Lib.hid hend
    clear gr1 gr2 gr3 gr4 hend
    refine wp_region_held_drew (S := fun w' => w'.heap[w.heap.size]? = some (.cells AC.toArray 25 (0, 0))) (by kernel_rfl) (HRows.out _ HCd.out).1 (fun hHeld => ?_)
    refine th 0 (v := .agg AC.toArray) ?_ (hy := fun wy hSw => by exact exec_load (t := 25) (x := .tmp 4) rfl (pv := .pointer (some ⟨w.heap.size, 0, none⟩)) rfl (run_loadAt_mid wy w.heap.size 0 25 AC _ (row_range hSw) Try.underlying25 rfl hi2))
    go_frame
    refine th 1 (v := .agg AC.toArray) ?_ (hy := fun wy hSw => by exact exec_load (t := 25) (x := .tmp 4) rfl (pv := .pointer (some ⟨w.heap.size, 0, none⟩)) rfl (run_loadAt_mid wy w.heap.size 0 25 AC _ (row_range hSw) Try.underlying25 rfl hi2))
    go_frame
    refine th 2 ?_
    go_frame
    refine th 3 ?_
    go_frame
    refine th 4 ?_
    go_frame
    refine th 5 ?_
    go_frame
    refine wpAnyH_ready (rs := [6]) (by kernel_rfl) (by simp) (AllReadyH.cons (o := ⟨none, .store 25 (.tmp 116) (.tmp 111), _, _, _, none⟩) rfl (fun K hK => ?_) AllReadyH.nil)
    rw [if_pos (by kernel_rfl)]
    refine wp_skip wz1 (exec_store rfl (vx := .pointer (some ⟨g22, 3, none⟩)) rfl (vy := .agg AC.toArray) rfl st1) ?_
    replace HCd := Lib.hid (grown_below HCd.out HG.out.1 HN.out.2.1)
    refine hK.out _ _ ((HRows.out _ HCd.out).1) (fun _ => ?_)
    clear hK K
    try go_frame
    refine th 7 ?_
    go_frame
    refine th 8 ?_
    go_frame
    refine wpAnyH_ready (rs := [9]) (by kernel_rfl) (by simp) (AllReadyH.cons (o := ⟨none, .store 25 (.tmp 118) (.tmp 112), _, _, _, none⟩) rfl (fun K hK => ?_) AllReadyH.nil)
    rw [if_pos (by kernel_rfl)]
    refine wp_skip wz2 (exec_store rfl (vx := .pointer (some ⟨g22, 45, none⟩)) rfl (vy := .agg AC.toArray) rfl st2) ?_
    replace HCd := Lib.hid (grown_below HCd.out HG.out.2.1 HN.out.2.1)
    refine hK.out _ _ ((HRows.out _ HCd.out).1) (fun _ => ?_)
    clear hK K
    try go_frame
    refine th 10 ?_
    go_frame
    refine th 11 ?_
    go_frame
    refine wpAnyH_ready (rs := [12]) (by kernel_rfl) (by simp) (AllReadyH.cons (o := ⟨none, .store 26 (.tmp 120) (.tmp 113), _, _, _, none⟩) rfl (fun K hK => ?_) AllReadyH.nil)
    rw [if_pos (by kernel_rfl)]
    refine wp_skip wz3 (exec_store rfl (vx := .pointer (some ⟨g22, 79, none⟩)) rfl (vy := .int .u16 (n : Int)) rfl st3) ?_
    replace HCd := Lib.hid (grown_below HCd.out HG.out.2.2.1 HN.out.2.1)
    refine hK.out _ _ ((HRows.out _ HCd.out).1) (fun _ => ?_)
    clear hK K
    try go_frame
    refine th 13 ?_
    go_frame
    refine th 14 ?_
    go_frame
    refine wpAnyH_ready (rs := [15]) (by kernel_rfl) (by simp) (AllReadyH.cons (o := ⟨none, .store 26 (.tmp 122) (.tmp 114), _, _, _, none⟩) rfl (fun K hK => ?_) AllReadyH.nil)
    rw [if_pos (by kernel_rfl)]
    refine wp_skip wz4 (exec_store rfl (vx := .pointer (some ⟨g22, 39, none⟩)) rfl (vy := .int .u16 (n : Int)) rfl st4) ?_
    replace HCd := Lib.hid (grown_below HCd.out HG.out.2.2.2 HN.out.2.1)
    refine hK.out _ _ ((HRows.out _ HCd.out).1) (fun _ => ?_)
    clear hK K
    try go_frame
    refine wpAnyH_done (by kernel_rfl) ?_ _
    replace HC := HCd
    clear HCd st1 st2 st3 st4
    have hk : ∀ k, k < wx4.heap.size → k ≠ g22 → wz4.heap[k]? = wx4.heap[k]? := fun k hk hne => by
      have hn' : some k ≠ some g22 := fun e => hne (Option.some.inj e)
      have s1 := HG.out.1.size
      have s2 := HG.out.2.1.size
      have s3 := HG.out.2.2.1.size
      have s0 : wx4.drew.heap.size = wx4.heap.size := rfl
      exact (HG.out.2.2.2.block k (by omega) hn').trans ((HG.out.2.2.1.block k (by omega) hn').trans ((HG.out.2.1.block k (by omega) hn').trans (HG.out.1.block k (by omega) hn')))
    have h21 : wz4.rangeAt g21 0 PU := fun j u hu => by
      have := H21.out j u hu
      rw [← this]
      exact World.cell?_of_block (hk g21 H21lt.out HN.out.2.2)
    replace H21 := Lib.hid h21
    replace H22 := HEnd
    clear hk HG HEnd h21
    have HB2 : Hid (Below _ _ wz4) := Lib.hid (up HB.out HC.out)
    obtain ⟨_, _, r15, r17, r19⟩ := HRows.out _ HC.out
    have r21 := H21.out
    have r22 := H22.out
    replace HR3 := Lib.hid ((HR3.out.below HC.out).more HC.out.size)
    replace HR5 := Lib.hid ((HR5.out.below HC.out).more HC.out.size)
    replace HR6 := Lib.hid ((HR6.out.below HC.out).more HC.out.size)
    replace HR7 := Lib.hid ((HR7.out.below HC.out).more HC.out.size)
    go_wp2_with (first
      | ((with_reducible refine wpList_load_mid_g (op := ⟨some 130, .load 39 (.tmp 17), _, _, _, _⟩) (by kernel_rfl) 39 (.tmp 17) rfl g17 0 ?_ PU _ r17 Try.underlying39 rfl hxu ?_); exact rfl)
      | ((with_reducible refine wpList_load_mid_g (op := ⟨some 131, .load 39 (.tmp 21), _, _, _, _⟩) (by kernel_rfl) 39 (.tmp 21) rfl g21 0 ?_ PU _ r21 Try.underlying39 rfl hxu ?_); exact rfl)
      | ((with_reducible refine wpList_load_mid_g (op := ⟨some 135, .load 39 (.tmp 19), _, _, _, _⟩) (by kernel_rfl) 39 (.tmp 19) rfl g19 0 ?_ PV _ r19 Try.underlying39 rfl hxv ?_); exact rfl)
      | ((with_reducible refine wpList_load_mid_g (op := ⟨some 136, .load 39 (.tmp 22), _, _, _, _⟩) (by kernel_rfl) 39 (.tmp 22) rfl g22 0 ?_ PV _ r22 Try.underlying39 rfl hxv ?_); exact rfl)
      | ((with_reducible refine wpList_load_mid_g (op := ⟨some 142, .load 39 (.tmp 15), _, _, _, _⟩) (by kernel_rfl) 39 (.tmp 15) rfl g15 0 ?_ PC _ r15 Try.underlying39 rfl hxi ?_); exact rfl)
      | ((with_reducible refine wpList_load_mid_g (op := ⟨some 148, .load 39 (.tmp 15), _, _, _, _⟩) (by kernel_rfl) 39 (.tmp 15) rfl g15 0 ?_ PC _ r15b Try.underlying39 rfl hxi ?_); exact rfl)
      | (go_at_call 10; first | (refine (hS1.out _ _ _ _ _ HR3.out HR6.out).mono ?_; rintro _ wp ⟨rfl, hbp⟩; replace HC := Lib.hid (up HC.out hbp); have r15b := (HRows.out _ HC.out).2.2.1; replace HR5 := Lib.hid ((HR5.out.below hbp).more hbp.size); replace HR7 := Lib.hid ((HR7.out.below hbp).more hbp.size); clear hbp hS1) | (refine (hS0.out _ _ _ _ _ HR5.out HR7.out).mono ?_; rintro _ wq ⟨rfl, hbq⟩; replace HC := Lib.hid (up HC.out hbq); clear hbq hS0))
      | (go_at_call 9; refine (hlv.out _).mono ?_; rintro _ wr ⟨rfl, hbr⟩; have HZ := Lib.hid (hup.out _ (up (up HB.out HC.out) hbr)); clear hbr))
    go_ret
    exact ⟨rfl, HZ.out⟩
theorem nt_u16 {n : Int} (h : (Lit.int .u16 n).wf = true) : 0 ≤ n ∧ n ≤ 65535 := by
  simpa [Lit.wf, IntKind.min, IntKind.max, IntKind.bits, IntKind.signed] using h
theorem natRewrites_walk (v : Value) (l : List UInt8) (to : Ad) (z : Int) (w : World) (hr : Rd w w.heap.size v (cellsB l)) (tw : to.Wide) (wz : (Lit.int .u16 z).wf = true) :
    Calls Try.prog 3 #[v, adV to, .int .u16 z] w fun e w' => e = .returned (.bool true) ∧ Below w.heap.size w w' := by
  obtain ⟨A0, c0, rfl, _, _, hr⟩ := hr.bytes
  obtain ⟨n, rfl, hn⟩ : ∃ n : Nat, z = (n : Int) ∧ n < 65536 := by
    have := nt_u16 wz
    exact ⟨z.toNat, by omega, by omega⟩
  by_cases hE : ntErr (l.take 2060) to n = 0
  · exact natRewrites_yes A0 c0 l to n w hr tw hn hE
  · exact natRewrites_no A0 c0 l to n w hr tw hn hE
end Go.Proofs.Ytejppekcniehpaa
