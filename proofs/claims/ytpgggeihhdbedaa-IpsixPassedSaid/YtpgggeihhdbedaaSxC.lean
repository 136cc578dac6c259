/-
  A packet's path in memory, and how one head between is passed: a contract of pass.
-/
import Derived.Test.YtpgggeihhdbedaaSxB
import Derived.Test.YtpgggeihhdbedaaCuts
import Derived.Laws.Bits64
namespace Go.Proofs.Ytpgggeihhdbedaa
open Go.RowKit
/-- A path: a head, what is behind, how many were passed. -/
def paC (h : Hd) (v : Value) (n : Nat) : List Value := hdC h ++ [v, .int .i64 (n : Int)]
def PaAt (w : World) (g : Nat) (h : Hd) (v : Value) (n : Nat) : Prop := w.heap[g]? = some (.cells (paC h v n).toArray 48 (0, 0))
section
variable {w : World} {g : Nat} {h : Hd} {v : Value} {n : Nat}
theorem PaAt.lt (hp : PaAt w g h v n) : g < w.heap.size := (Array.getElem?_eq_some_iff.1 hp).1
theorem PaAt.free (hp : PaAt w g h v n) (j : Nat) : w.frozen? ⟨g, j, none⟩ = false := frozen_of_row w g j _ _ hp
theorem PaAt.cells (hp : PaAt w g h v n) (hw : h.Wide) : w.cell? ⟨g, 1, none⟩ = some (.int .u8 (h.proto.toNat : Int)) ∧ w.cell? ⟨g, 2, none⟩ = some (.int .i64 h.pos) ∧ w.cell? ⟨g, 37, none⟩ = some (.bool h.part) ∧ w.cell? ⟨g, 39, none⟩ = some v ∧ w.cell? ⟨g, 40, none⟩ = some (.int .i64 (n : Int)) := by
  obtain ⟨s0, p0, n0, ⟨s1, x1⟩, ⟨s2, x2⟩, q0, k0⟩ := h
  obtain ⟨a1, a2, a3, a4, a5, a6, a7, a8, a9, a10, a11, a12, a13, a14, a15, a16, rfl⟩ := list16 hw.1
  obtain ⟨b1, b2, b3, b4, b5, b6, b7, b8, b9, b10, b11, b12, b13, b14, b15, b16, rfl⟩ := list16 hw.2
  refine ⟨?_, ?_, ?_, ?_, ?_⟩ <;> (rw [cell_of_row w g _ _ _ _ hp]; rfl)
theorem row_setCell_at {w : World} {g j : Nat} {u : Value} {cs : Array Value} {t : TypeId} {fr : Nat × Nat} (h : w.heap[g]? = some (.cells cs t fr)) : (w.setCell ⟨g, j, none⟩ u).heap[g]? = some (.cells (cs.setIfInBounds j u) t fr) := by
  simp [World.setCell, Array.getElem?_modify, h]
theorem grown_one (w : World) (q j : Nat) (v : Value) : w.grownBy (w.setCell ⟨q, j, none⟩ v) (some q) := ⟨rfl, rfl, rfl, by simp, fun k _ hk => heap_setCell_other w _ k v (fun e => hk (by rw [e]))⟩
theorem grown_two {w w1 w2 : World} {q : Option Nat} (h : w.grownBy w1 q) (k : w1.grownBy w2 q) : w.grownBy w2 q := ⟨k.os.trans h.os, k.tape.trans h.tape, k.output.trans h.output, Nat.le_trans h.size k.size, fun i hi hn => (k.block i (Nat.lt_of_lt_of_le hi h.size) hn).trans (h.block i hi hn)⟩
theorem grown_none (w : World) (q : Option Nat) : w.grownBy w q := ⟨rfl, rfl, rfl, Nat.le_refl _, fun _ _ _ => rfl⟩
theorem PaAt.next (hp : PaAt w g h v n) (hw : h.Wide) (p' : UInt8) (pos' : Int) (v' : Value) (n' : Nat) :
    PaAt ((((w.setCell ⟨g, 1, none⟩ (.int .u8 (p'.toNat : Int))).setCell ⟨g, 2, none⟩ (.int .i64 pos')).setCell ⟨g, 39, none⟩ v').setCell ⟨g, 40, none⟩ (.int .i64 (n' : Int))) g ⟨h.six, p', pos', h.src, h.dst, h.part, h.hops⟩ v' n' ∧ w.grownBy ((((w.setCell ⟨g, 1, none⟩ (.int .u8 (p'.toNat : Int))).setCell ⟨g, 2, none⟩ (.int .i64 pos')).setCell ⟨g, 39, none⟩ v').setCell ⟨g, 40, none⟩ (.int .i64 (n' : Int))) (some g) := by
  refine ⟨?_, grown_two (grown_two (grown_two (grown_one _ _ _ _) (grown_one _ _ _ _)) (grown_one _ _ _ _)) (grown_one _ _ _ _)⟩
  unfold PaAt at hp ⊢
  rw [row_setCell_at (row_setCell_at (row_setCell_at (row_setCell_at hp)))]
  obtain ⟨s0, p0, n0, ⟨s1, x1⟩, ⟨s2, x2⟩, q0, k0⟩ := h
  obtain ⟨a1, a2, a3, a4, a5, a6, a7, a8, a9, a10, a11, a12, a13, a14, a15, a16, rfl⟩ := list16 hw.1
  obtain ⟨b1, b2, b3, b4, b5, b6, b7, b8, b9, b10, b11, b12, b13, b14, b15, b16, rfl⟩ := list16 hw.2
  rfl
theorem PaAt.parted (hp : PaAt w g h v n) (hw : h.Wide) (b : Bool) : PaAt (w.setCell ⟨g, 37, none⟩ (.bool b)) g ⟨h.six, h.proto, h.pos, h.src, h.dst, b, h.hops⟩ v n := by
  unfold PaAt at hp ⊢
  rw [row_setCell_at hp]
  obtain ⟨s0, p0, n0, ⟨s1, x1⟩, ⟨s2, x2⟩, q0, k0⟩ := h
  obtain ⟨a1, a2, a3, a4, a5, a6, a7, a8, a9, a10, a11, a12, a13, a14, a15, a16, rfl⟩ := list16 hw.1
  obtain ⟨b1, b2, b3, b4, b5, b6, b7, b8, b9, b10, b11, b12, b13, b14, b15, b16, rfl⟩ := list16 hw.2
  rfl
end
theorem and_bits (q : Nat) (h : q < 65536) : ∃ z : Nat, bits .and .i64 (q : Int) 65529 = (z : Int) ∧ ((z : Int) != 0) = decide (q / 8 ≠ 0 ∨ q % 2 = 1) := by
  have h1 : ∀ b : Fin 256, b.val &&& 249 = b.val / 8 * 8 + b.val % 2 := by decide +kernel
  have h2 : ∀ b : Fin 256, b.val &&& 255 = b.val := by decide +kernel
  have e1 : (q &&& 65529) % 256 = q % 256 / 8 * 8 + q % 256 % 2 := by
    rw [show 256 = 2 ^ 8 by rfl, Nat.and_mod_two_pow]
    exact h1 ⟨q % 256, Nat.mod_lt _ (by omega)⟩
  have e2 : (q &&& 65529) / 256 = q / 256 := by
    rw [show 256 = 2 ^ 8 by rfl, Nat.and_div_two_pow]
    exact h2 ⟨q / 256, by omega⟩
  refine ⟨q &&& 65529, ?_, ?_⟩
  · have a1 : (BitVec.ofInt 64 (q : Int)).toNat = q := by rw [BitVec.toNat_ofInt]; omega
    have a2 : (BitVec.ofInt 64 65529).toNat = 65529 := by decide
    have key : (BitVec.ofInt 64 (q : Int) &&& BitVec.ofInt 64 65529).toNat = q &&& 65529 := by rw [BitVec.toNat_and, a1, a2]
    show IntKind.i64.wrap ((BitVec.ofInt 64 (q : Int) &&& BitVec.ofInt 64 65529).toNat : Nat) = _
    rw [key]
    exact IntWalk.i64_in _ (by omega)
  · obtain ⟨z, hz⟩ : ∃ z, z = q &&& 65529 := ⟨_, rfl⟩
    rw [← hz] at e1 e2 ⊢
    by_cases h0 : z = 0
    · rw [h0, decide_eq_false (by omega)]; rfl
    · rw [decide_eq_true (by omega)]; simp; omega
/-- What pass leaves. -/
def PaOut (w : World) (g : Nat) (h : Hd) (r : List UInt8) (n : Nat) (B : Nat) (w' : World) : Prop := ∃ A' c', PaAt w' g (sxNext h r) (.slice A' (r.drop (sxSize h.proto r)).length c') (n + 1) ∧ Rd w B (.slice A' (r.drop (sxSize h.proto r)).length c') (cellsB (r.drop (sxSize h.proto r))) ∧ w.grownBy w' (some g)
set_option maxRecDepth 100000 in
set_option maxHeartbeats 1000000 in
theorem sxPass_any {w : World} {g : Nat} {h : Hd} {A : Option Addr} {c n B : Nat} {r : List UInt8} (hp : PaAt w g h (.slice A r.length c) n) (hw : h.Wide) (hr : Rd w B (.slice A r.length c) (cellsB r)) (hB : B ≤ g) (hpos : 0 ≤ h.pos ∧ h.pos ≤ 1000000) (hn : n ≤ 100) (hl : r.length ≤ 100000) :
    Calls Try.prog 23 #[.pointer (some ⟨g, 0, none⟩)] w fun e w' => e = .returned (.int .i64 ((sxPassE h.proto r : Nat) : Int)) ∧ (sxPassE h.proto r ≠ 0 → w = w') ∧ (sxPassE h.proto r = 0 → PaOut w g h r n B w') := by
  obtain ⟨c1, c2, c37, c39, c40⟩ := hp.cells hw
  have f1 := hp.free 1
  have f2 := hp.free 2
  have f37 := hp.free 37
  have f39 := hp.free 39
  have f40 := hp.free 40
  obtain ⟨m, hm⟩ : ∃ m, m = r.length := ⟨_, rfl⟩
  by_cases h8 : m < 8
  · have e : sxPassE h.proto r = 9 := by unfold sxPassE; rw [if_pos (by omega)]
    rw [e]
    rw [← hm] at c39
    clear hp hr hm e hw hl hB hpos hn
    go_enter Try.func23, Try.ntmps23
    go_wp2_with fail
    go_ret
    exact ⟨rfl, fun _ => rfl, fun h => absurd h (by decide)⟩
  obtain ⟨b, o, rfl, hb, hc⟩ := hr.addr (by omega)
  have hne : ¬ b = g := by omega
  have hne' : ¬ g = b := by omega
  have d0 := hc 0 (by omega)
  have d1 := hc 1 (by omega)
  rw [Nat.add_zero] at d0
  obtain ⟨x0, hx0⟩ : ∃ x, x = r[0]'(by omega) := ⟨_, rfl⟩
  obtain ⟨x1, hx1⟩ : ∃ x, x = r[1]'(by omega) := ⟨_, rfl⟩
  have g0 : r.getD 0 0 = x0 := by rw [hx0, getD_get (by omega)]
  have g1 : r.getD 1 0 = x1 := by rw [hx1, getD_get (by omega)]
  rw [← hx0] at d0
  rw [← hx1] at d1
  have hx1l := x1.toNat_lt
  obtain ⟨P, hP⟩ : ∃ P : Nat, h.pos = (P : Int) ∧ P ≤ 1000000 := ⟨h.pos.toNat, by omega, by omega⟩
  have hnw : IntKind.i64.wrap ((n : Int) + 1) = ((n + 1 : Nat) : Int) := by rw [IntWalk.i64_in _ (by omega)]; omega
  obtain ⟨n1, hn1⟩ : ∃ n1, n1 = n + 1 := ⟨_, rfl⟩
  rw [← hn1] at hnw
  obtain ⟨S, hS⟩ : ∃ S, S = sxSize h.proto r := ⟨_, rfl⟩
  have hout : Hid (∀ k : S ≤ m, ∃ A', (∀ W : World, (Instr.sliceAt 27 (.slice (some ⟨b, o, none⟩) m c) (some (.int .i64 (S : Int))) none none).run Try.prog W = .ok (.slice A' (m - S) (c - S)) W) ∧ Rd w B (.slice A' (m - S) (c - S)) (cellsB (r.drop S))) := Lib.hid fun k => by
    obtain ⟨A', hA', kc⟩ := cut_l (P := Try.prog) (t := 27) Try.underlying27 (i := _) (e := 5) rfl rfl (some ⟨b, o, none⟩) m c S k (S : Int) rfl
    have hr2 := hr.cut (lo := S) (hi := m) k (by omega)
    rw [← hA', hm, List.take_of_length_le (by rw [cellsB_length]; omega), cellsB_drop] at hr2
    rw [hm] at kc ⊢
    exact ⟨A', kc, hr2⟩
  have hdl : (r.drop S).length = m - S := by rw [List.length_drop, hm]
  have hPw : IntKind.i64.wrap ((P : Int) + (S : Int)) = ((P + S : Nat) : Int) := by
    have : S ≤ 8 + 8 * 255 := by rw [hS]; unfold sxSize; split; omega; rw [g1]; omega
    rw [IntWalk.i64_in _ (by omega)]; omega
  have hfin : Hid (∀ (b' : Bool) (A' : Option Addr) (c' : Nat), Rd w B (.slice A' (m - S) c') (cellsB (r.drop S)) → b' = (h.part || (decide (h.proto = 44) && sxBits r)) → ∀ w0, PaAt w0 g ⟨h.six, h.proto, h.pos, h.src, h.dst, b', h.hops⟩ (.slice (some ⟨b, o, none⟩) m c) n → w.grownBy w0 (some g) →
      PaOut w g h r n B ((((w0.setCell ⟨g, 1, none⟩ (.int .u8 (x0.toNat : Int))).setCell ⟨g, 2, none⟩ (.int .i64 ((P + S : Nat) : Int))).setCell ⟨g, 39, none⟩ (.slice A' (m - S) c')).setCell ⟨g, 40, none⟩ (.int .i64 (n1 : Int)))) := Lib.hid fun b' A' c' hrd hb' w0 hp0 hg0 => by
    obtain ⟨q1, q2⟩ := hp0.next hw x0 ((P + S : Nat) : Int) (.slice A' (m - S) c') n1
    refine ⟨A', c', ?_, ?_, grown_two hg0 q2⟩
    · rw [← hS, hdl]
      have : sxNext h r = ⟨h.six, x0, ((P + S : Nat) : Int), h.src, h.dst, b', h.hops⟩ := by
        unfold sxNext
        rw [g0, ← hS, hb', hP.1]
        congr 1
      rw [this, ← hn1]
      exact q1
    · rw [← hS, hdl]; exact hrd
  obtain ⟨Q, hQ⟩ : ∃ Q, Q = P + S := ⟨_, rfl⟩
  rw [← hQ] at hfin hPw
  have hE : sxPassE h.proto r = if m < S then 9 else 0 := by
    unfold sxPassE
    rw [← hS, ← hm]
    by_cases k : m < S
    · rw [if_pos (.inr k), if_pos k]
    · rw [if_neg (by omega), if_neg k]
  rw [hE]
  rw [← hm] at c39
  rw [hP.1] at c2
  by_cases h44 : h.proto = 44
  · have hS8 : S = 8 := by rw [hS]; unfold sxSize; rw [if_pos h44]
    subst hS8
    rw [if_neg h8]
    obtain ⟨A', kc, hrd⟩ := hout.out (by omega)
    have hN := Lib.hid (sxNumber_any (a := 2) hr (by omega))
    obtain ⟨q, hq⟩ : ∃ q, q = num2 r 2 := ⟨_, rfl⟩
    have hql := num2_lt r 2
    rw [← hq] at hql
    obtain ⟨z, kz1, kz2⟩ := and_bits q hql
    have hzb : ((z : Int) != 0) = sxBits r := by rw [kz2]; unfold sxBits; rw [← hq]
    rw [← hq, ← hm] at hN
    have hfin2 : Hid (∀ b' : Bool, b' = (h.part || sxBits r) → PaOut w g h r n B (((((w.setCell ⟨g, 37, none⟩ (.bool b')).setCell ⟨g, 1, none⟩ (.int .u8 (x0.toNat : Int))).setCell ⟨g, 2, none⟩ (.int .i64 (Q : Int))).setCell ⟨g, 39, none⟩ (.slice A' (m - 8) (c - 8))).setCell ⟨g, 40, none⟩ (.int .i64 (n1 : Int)))) := Lib.hid fun b' hb' => by
      rw [hm] at *
      exact hfin.out b' A' _ hrd (by rw [hb', decide_eq_true h44]; rfl) _ (hp.parted hw b') (grown_one _ _ _ _)
    rw [h44] at c1
    generalize sxBits r = β at hzb hfin2
    generalize h.part = α at c37 hfin2
    have hm8 : 8 ≤ m := by omega
    clear hfin hout hE h8 hq hql kz2 hS hdl hp hr hc hw hpos hP hQ hx0 hx1 g0 g1 h44 hrd hB hl hb hx1l d1 hn hn1
    clear hm
    obtain ⟨m1, hm1⟩ : ∃ m1, m1 = m - 8 := ⟨_, rfl⟩
    obtain ⟨c1', hc1'⟩ : ∃ c1', c1' = c - 8 := ⟨_, rfl⟩
    rw [← hm1, ← hc1'] at kc hfin2
    clear hm1 hc1'
    have kc8 : ∀ W : World, (Instr.sliceAt 27 (.slice (some ⟨b, o, none⟩) m c) (some (.int .i64 8)) none none).run Try.prog W = .ok (.slice A' m1 c1') W := kc
    have hPw8 : IntKind.i64.wrap ((P : Int) + 8) = (Q : Int) := hPw
    clear kc hPw
    cases α
    · go_enter Try.func23, Try.ntmps23
      go_wp2_with (go_at_call 21; refine hN.out.mono ?_; rintro e w1 ⟨rfl, rfl⟩)
      go_ret
      exact ⟨rfl, fun h => absurd rfl h, fun _ => hfin2.out _ rfl⟩
    · go_enter Try.func23, Try.ntmps23
      go_wp2_with fail
      go_ret
      exact ⟨rfl, fun h => absurd rfl h, fun _ => hfin2.out _ rfl⟩
  · have k44 : ((h.proto.toNat : Int) == 44) = false := beq_u8 (k := 44) (toNat_ne h44)
    have hSv : S = 8 + 8 * x1.toNat := by rw [hS]; unfold sxSize; rw [if_neg h44, g1]
    have kw1 : IntKind.i64.wrap (8 * (x1.toNat : Int)) = ((8 * x1.toNat : Nat) : Int) := by rw [IntWalk.i64_in _ (by omega)]; omega
    obtain ⟨y, hy⟩ : ∃ y, y = 8 * x1.toNat := ⟨_, rfl⟩
    rw [← hy] at kw1
    have kw2 : IntKind.i64.wrap (8 + (y : Int)) = (S : Int) := by rw [IntWalk.i64_in _ (by omega)]; omega
    have hxi : (x1.toNat : Int) < 256 := by omega
    by_cases hmS : m < S
    · rw [if_pos hmS]
      clear hfin hout hE hS hdl hp hr hc hw hpos hP hQ hx0 hx1 g0 g1 h44 hB hl hb hn hn1 hSv hy hm hPw
      go_enter Try.func23, Try.ntmps23
      go_wp2_with fail
      go_ret
      exact ⟨rfl, fun _ => rfl, fun h => absurd h (by decide)⟩
    · rw [if_neg hmS]
      obtain ⟨A', kc, hrd⟩ := hout.out (by omega)
      have hfin2 := Lib.hid (hfin.out h.part A' _ hrd (by rw [decide_eq_false h44]; simp) w (by rw [hm]; exact hp) (grown_none _ _))
      clear hfin hout hE hS hdl hp hr hc hw hpos hP hQ hx0 hx1 g0 g1 h44 hB hl hb hn hn1 hSv hy hm hrd
      obtain ⟨m1, hm1⟩ : ∃ m1, m1 = m - S := ⟨_, rfl⟩
      obtain ⟨c1', hc1'⟩ : ∃ c1', c1' = c - S := ⟨_, rfl⟩
      rw [← hm1, ← hc1'] at kc hfin2
      clear hm1 hc1'
      go_enter Try.func23, Try.ntmps23
      go_wp2_with fail
      go_ret
      exact ⟨rfl, fun h => absurd rfl h, fun _ => hfin2.out⟩
end Go.Proofs.Ytpgggeihhdbedaa
