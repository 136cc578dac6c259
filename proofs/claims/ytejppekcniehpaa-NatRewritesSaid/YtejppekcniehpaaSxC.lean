/-
  Small functions of package ipsix: between, number, address, written, whole.
  What is wrong with a packet, as far as its first head tells: a contract.
  A packet's path in memory, and how one head between is passed: a contract of pass.
-/
import Derived.Test.YtejppekcniehpaaSxMath
import Derived.Test.YtejppekcniehpaaCuts
import Derived.Test.YtejppekcniehpaaAdC
import Derived.Laws.Bits64
namespace Go.Proofs.Ytejppekcniehpaa
open Go.RowKit
theorem beq_u8 {p : UInt8} {k : Nat} (h : p.toNat ≠ k) : ((p.toNat : Int) == (k : Int)) = false := by simp; omega
theorem toNat_ne {p q : UInt8} (h : p ≠ q) : p.toNat ≠ q.toNat := fun e => h (UInt8.toNat_inj.1 e)
set_option maxRecDepth 100000 in
theorem sxBetween_any (p : UInt8) (w : World) : Calls Try.prog 74 #[.int .u8 (p.toNat : Int)] w fun e w' => e = .returned (.bool (stands p)) ∧ w = w' := by
  by_cases h0 : p = 0
  · subst h0
    go_enter Try.func74, Try.ntmps74
    go_wp2_with fail
    go_ret
    exact ⟨rfl, rfl⟩
  by_cases h1 : p = 43
  · subst h1
    go_enter Try.func74, Try.ntmps74
    go_wp2_with fail
    go_ret
    exact ⟨rfl, rfl⟩
  by_cases h2 : p = 44
  · subst h2
    go_enter Try.func74, Try.ntmps74
    go_wp2_with fail
    go_ret
    exact ⟨rfl, rfl⟩
  by_cases h3 : p = 60
  · subst h3
    go_enter Try.func74, Try.ntmps74
    go_wp2_with fail
    go_ret
    exact ⟨rfl, rfl⟩
  have hs : stands p = false := by simp [stands, h0, h1, h2, h3]
  have k0 : ((p.toNat : Int) == 0) = false := beq_u8 (k := 0) (toNat_ne h0)
  have k1 : ((p.toNat : Int) == 43) = false := beq_u8 (k := 43) (toNat_ne h1)
  have k2 : ((p.toNat : Int) == 44) = false := beq_u8 (k := 44) (toNat_ne h2)
  have k3 : ((p.toNat : Int) == 60) = false := beq_u8 (k := 60) (toNat_ne h3)
  rw [hs]
  clear hs h0 h1 h2 h3
  go_enter Try.func74, Try.ntmps74
  go_wp2_with fail
  go_ret
  exact ⟨rfl, rfl⟩
section
variable {A : Option Addr} {c : Nat} {l : List UInt8} {w : World} {B : Nat}
set_option maxRecDepth 100000 in
theorem sxNumber_any (hr : Rd w B (.slice A l.length c) (cellsB l)) {a : Nat} (h : a + 2 ≤ l.length) :
    Calls Try.prog 72 #[.slice A l.length c, .int .i64 (a : Int)] w fun e w' => e = .returned (.int .i64 ((num2 l a : Nat) : Int)) ∧ w = w' := by
  have hg := get_yes A c l a 2 w B hr (by omega) (by omega) h
  rw [ofBe_two l a h] at hg
  have hlt := num2_lt l a
  obtain ⟨q, hq⟩ : ∃ q, q = num2 l a := ⟨_, rfl⟩
  rw [← hq] at hg hlt ⊢
  have hc : IntKind.i64.wrap (q : Int) = (q : Int) := IntWalk.i64_in _ (by omega)
  have Hg := Lib.hid hg
  clear hg hq hr h hlt
  go_enter Try.func72, Try.ntmps72
  go_wp2_with (go_at_call 79; refine Hg.out.mono ?_; rintro e w1 ⟨rfl, rfl⟩)
  go_ret
  exact ⟨rfl, rfl⟩
end
set_option maxRecDepth 100000 in
theorem sxAddress_any {A : Option Addr} {c : Nat} {l : List UInt8} {w : World} {B : Nat} (hr : Rd w B (.slice A l.length c) (cellsB l)) (hB : B ≤ w.heap.size) (h : l.length = 16) :
    Calls Try.prog 73 #[.slice A l.length c] w fun e w' => e = .returned (adV (ad6 l)) ∧ Below w.heap.size w w' := by
  have hz := zero_ad
  have hx := ad6_wide h
  have hf := adOf_any A c l (w.alloc (.cells (adC Ad.zero).toArray 25)) B (hr.alloc hB _) (by simp; omega)
  rw [show (adBytes l).getD Ad.zero = ad6 l by unfold adBytes; rw [if_neg (by omega), if_pos h]; rfl, show (adBytes l).isSome = true by unfold adBytes; rw [if_neg (by omega), if_pos h]; rfl] at hf
  rw [h] at hf ⊢
  generalize ad6 l = x at hf hx ⊢
  have h0 := heap_alloc_last w (.cells (adC Ad.zero).toArray 25)
  have hS : Hid (∀ w2, Below (w.alloc (.cells (adC Ad.zero).toArray 25)).heap.size (w.alloc (.cells (adC Ad.zero).toArray 25)) w2 → ∃ w3, (Instr.storeAt 25 (.pointer (some ⟨w.heap.size, 0, none⟩)) (adV x)).run Try.prog (w2.alloc (.cells (adC x).toArray 25)) = .ok () w3 ∧ AdAt w3 w.heap.size x ∧ Below w.heap.size w w3) := Lib.hid fun w2 hb2 => by
    have hb3 := up_alloc (up (up_alloc (Below.refl w.heap.size w) (.cells (adC Ad.zero).toArray 25)) hb2) (.cells (adC x).toArray 25)
    have hsz := hb2.size
    rw [show (w.alloc (.cells (adC Ad.zero).toArray 25)).heap.size = w.heap.size + 1 by simp] at hsz
    obtain ⟨w3, hst, _, hat, hgr, _⟩ := store_ad (w := w2.alloc (.cells (adC x).toArray 25)) (g := w.heap.size) (a := Ad.zero) (b := x) ((heap_alloc_old w2 _ (by omega)).trans ((hb2.block _ (by simp)).trans h0)) rfl hx
    exact ⟨w3, hst, hat, grown_below hb3 hgr (Nat.le_refl _)⟩
  have hxi := info_adA hx
  have hzs : (adC Ad.zero).toArray.size = (adC x).toArray.size := by rw [List.size_toArray, List.size_toArray, adC_length hx]; rfl
  have hxa := all_oneCell_toArray (adC_one x)
  have Hf := Lib.hid hf
  have Hx := Lib.hid hx
  clear hf h0 hx
  generalize hZ : adC Ad.zero = Z at *
  go_enter Try.func73, Try.ntmps73
  go_wp2_with (first
    | (with_reducible refine wpList_alloc_zero (o := ⟨some 2, .alloc 25, _, _, _, _⟩) rfl 25 rfl Z.toArray hz ?_)
    | (with_reducible refine wpList_alloc_zero (o := ⟨some 3, .alloc 25, _, _, _, _⟩) rfl 25 rfl Z.toArray hz ?_)
    | (go_at_call 80; refine Hf.out.mono ?_; rintro _ w2 ⟨rfl, hb2⟩; obtain ⟨w3, hst, hat, hbel⟩ := hS.out w2 hb2; have hg3 := heap_alloc_last w2 (.cells (adC x).toArray 25); have HB3 := Lib.hid (And.intro hat hbel); clear hb2 hat hbel)
    | ((with_reducible refine wpList_store_new (o := ⟨none, .store 25 (.tmp 3) (.tmp 8), _, _, _, _⟩) rfl 25 (.tmp 3) (.tmp 8) rfl Z.toArray (adC x).toArray ?_ ?_ hxi hzs hxa ?_); exact rfl; exact rfl)
    | ((with_reducible refine wpList_load_row (o := ⟨some 10, .load 25 (.tmp 3), _, _, _, _⟩) rfl 25 (.tmp 3) rfl w2.heap.size ?_ 25 (adC x).toArray (0, 0) _ hg3 Try.underlying25 rfl hxi ?_); exact rfl)
    | ((with_reducible refine wpList_stored (o := ⟨none, .store 25 (.tmp 2) (.tmp 10), _, _, _, none⟩) rfl 25 (.tmp 2) (.tmp 10) rfl (.pointer (some ⟨w.heap.size, 0, none⟩)) (adV x) ?_ ?_ w3 hst ?_); exact rfl; exact rfl))
  refine bodyPost_ret (results_cell_row (p := 2) (ty := 25) (by kernel_rfl) _ _ w.heap.size 25 _ (0, 0) _ rfl HB3.out.1 Try.underlying25 rfl hxi) rfl ⟨rfl, HB3.out.2⟩
theorem getD_get {l : List UInt8} {k : Nat} (h : k < l.length) : l.getD k 0 = l[k] := by rw [List.getD_eq_getElem?_getD, List.getElem?_eq_getElem h]; rfl
set_option maxRecDepth 100000 in
set_option maxHeartbeats 1000000 in
theorem sxWhole_any {A : Option Addr} {c : Nat} {l : List UInt8} {w : World} {B : Nat} (hr : Rd w B (.slice A l.length c) (cellsB l)) :
    Calls Try.prog 64 #[.slice A l.length c] w fun e w' => e = .returned (.int .i64 ((sxE1 l : Nat) : Int)) ∧ w = w' := by
  obtain ⟨m, hm⟩ : ∃ m, m = l.length := ⟨_, rfl⟩
  by_cases h1 : 2048 < m
  · have e : sxE1 l = 10 := by unfold sxE1; rw [if_pos (by omega)]
    rw [e, ← hm]
    clear hr hm e
    go_enter Try.func64, Try.ntmps64
    go_wp2_with fail
    go_ret
    exact ⟨rfl, rfl⟩
  by_cases h2 : m < 40
  · have e : sxE1 l = 9 := by unfold sxE1; rw [if_neg (by omega), if_pos (by omega)]
    rw [e, ← hm]
    clear hr hm e
    go_enter Try.func64, Try.ntmps64
    go_wp2_with fail
    go_ret
    exact ⟨rfl, rfl⟩
  have hN := Lib.hid (sxNumber_any (a := 4) hr (by omega))
  obtain ⟨b, o, rfl, hb, hc⟩ := hr.addr (by omega)
  have c0 := hc 0 (by omega)
  have c7 := hc 7 (by omega)
  rw [Nat.add_zero] at c0
  obtain ⟨x, hx⟩ : ∃ x, x = l[0]'(by omega) := ⟨_, rfl⟩
  obtain ⟨y, hy⟩ : ∃ y, y = l[7]'(by omega) := ⟨_, rfl⟩
  have hgx : l.getD 0 0 = x := by rw [hx, getD_get (by omega)]
  have hgy : l.getD 7 0 = y := by rw [hy, getD_get (by omega)]
  rw [← hx] at c0
  rw [← hy] at c7
  have hxl := x.toNat_lt
  have hlt := num2_lt l 4
  obtain ⟨q, hq⟩ : ∃ q, q = num2 l 4 := ⟨_, rfl⟩
  rw [← hq] at hN hlt
  have he : sxE1 l = if x.toNat / 16 ≠ 6 then 12 else if m < 40 + q then 9 else if 40 + q < m then 10 else if y.toNat = 0 then 4 else 0 := by
    unfold sxE1
    rw [if_neg (by omega), if_neg (by omega), hgx, hgy, hq, hm]
  rw [he, ← hm]
  rw [← hm] at hN
  obtain ⟨p, hp⟩ : ∃ p, p = x.toNat / 16 := ⟨_, rfl⟩
  rw [← hp]
  have k2 : (x.toNat : Int) / 16 = (p : Int) := by omega
  clear hr hc hgx hgy he hm hb hx hy hp hq
  by_cases h3 : p = 6
  · subst h3
    rw [if_neg (by simp)]
    obtain ⟨z, hz⟩ : ∃ z, z = 40 + q := ⟨_, rfl⟩
    have hzw : IntKind.i64.wrap (40 + (q : Int)) = (z : Int) := by rw [IntWalk.i64_in _ (by omega)]; omega
    rw [← hz]
    clear hz hlt
    by_cases h4 : m < z
    · rw [if_pos h4]
      go_enter Try.func64, Try.ntmps64
      go_wp2_with (go_at_call 72; refine hN.out.mono ?_; rintro e w1 ⟨rfl, rfl⟩)
      go_ret
      exact ⟨rfl, rfl⟩
    rw [if_neg h4]
    by_cases h5 : z < m
    · rw [if_pos h5]
      go_enter Try.func64, Try.ntmps64
      go_wp2_with (go_at_call 72; refine hN.out.mono ?_; rintro e w1 ⟨rfl, rfl⟩)
      go_ret
      exact ⟨rfl, rfl⟩
    rw [if_neg h5]
    by_cases h6 : y.toNat = 0
    · rw [if_pos h6]
      rw [h6] at c7
      clear h6
      go_enter Try.func64, Try.ntmps64
      go_wp2_with (go_at_call 72; refine hN.out.mono ?_; rintro e w1 ⟨rfl, rfl⟩)
      go_ret
      exact ⟨rfl, rfl⟩
    · rw [if_neg h6]
      have k6 : ((y.toNat : Int) == 0) = false := by simp; omega
      clear h6
      go_enter Try.func64, Try.ntmps64
      go_wp2_with (go_at_call 72; refine hN.out.mono ?_; rintro e w1 ⟨rfl, rfl⟩)
      go_ret
      exact ⟨rfl, rfl⟩
  · have h3' : ((p : Int) != 6) = true := by simp; omega
    rw [if_pos h3]
    go_enter Try.func64, Try.ntmps64
    go_wp2_with fail
    go_ret
    exact ⟨rfl, rfl⟩
/-- A path: a head, what is behind, how many were passed. -/
def paC (h : Hd) (v : Value) (n : Nat) : List Value := hdC h ++ [v, .int .i64 (n : Int)]
def PaAt (w : World) (g : Nat) (h : Hd) (v : Value) (n : Nat) : Prop := w.heap[g]? = some (.cells (paC h v n).toArray 90 (0, 0))
section
variable {w : World} {g : Nat} {h : Hd} {v : Value} {n : Nat}
theorem PaAt.lt (hp : PaAt w g h v n) : g < w.heap.size := (Array.getElem?_eq_some_iff.1 hp).1
theorem PaAt.free (hp : PaAt w g h v n) (j : Nat) : w.frozen? ⟨g, j, none⟩ = false := frozen_of_row w g j _ _ hp
theorem PaAt.cells (hp : PaAt w g h v n) (hw : h.Wide) : w.cell? ⟨g, 1, none⟩ = some (.int .u8 (h.proto.toNat : Int)) ∧ w.cell? ⟨g, 2, none⟩ = some (.int .i64 h.pos) ∧ w.cell? ⟨g, 37, none⟩ = some (.bool h.part) ∧ w.cell? ⟨g, 39, none⟩ = some v ∧ w.cell? ⟨g, 40, none⟩ = some (.int .i64 (n : Int)) := by
  obtain ⟨s0, p0, n0, ⟨s1, x1⟩, ⟨s2, x2⟩, q0, k0⟩ := h
  obtain ⟨a1, a2, a3, a4, a5, a6, a7, a8, a9, a10, a11, a12, a13, a14, a15, a16, rfl⟩ := list16 hw.1
  obtain ⟨b1, b2, b3, b4, b5, b6, b7, b8, b9, b10, b11, b12, b13, b14, b15, b16, rfl⟩ := list16 hw.2
  refine ⟨?_, ?_, ?_, ?_, ?_⟩ <;> (rw [cell_of_row w g _ _ _ _ hp]; rfl)
theorem row_setCell_at {w : World} {g j : Nat} {u : Value} {cs : Array Value} {t : TypeId} {fr : Nat × Nat} (h : w.heap[g]? = some (.cells cs t fr)) : (w.setCell ⟨g, j, none⟩ u).heap[g]? = some (.cells (cs.setIfInBounds j u) t fr) := by
  simp [World.setCell, Array.getElem?_modify, h]
theorem grown_one (w : World) (q j : Nat) (v : Value) : w.grownBy (w.setCell ⟨q, j, none⟩ v) (some q) := ⟨rfl, rfl, rfl, by simp, fun k _ hk => heap_setCell_other w _ k v (fun e => hk (by rw [e]))⟩
theorem grown_two {w w1 w2 : World} {q : Option Nat} (h : w.grownBy w1 q) (k : w1.grownBy w2 q) : w.grownBy w2 q := ⟨k.os.trans h.os, k.tape.trans h.tape, k.output.trans h.output, Nat.le_trans h.size k.size, fun i hi hn => (k.block i (Nat.lt_of_lt_of_le hi h.size) hn).trans (h.block i hi hn)⟩
theorem grown_none (w : World) (q : Option Nat) : w.grownBy w q := ⟨rfl, rfl, rfl, Nat.le_refl _, fun _ _ _ => rfl⟩
theorem PaAt.next (hp : PaAt w g h v n) (hw : h.Wide) (p' : UInt8) (pos' : Int) (v' : Value) (n' : Nat) :
    PaAt ((((w.setCell ⟨g, 1, none⟩ (.int .u8 (p'.toNat : Int))).setCell ⟨g, 2, none⟩ (.int .i64 pos')).setCell ⟨g, 39, none⟩ v').setCell ⟨g, 40, none⟩ (.int .i64 (n' : Int))) g ⟨h.six, p', pos', h.src, h.dst, h.part, h.hops⟩ v' n' ∧ w.grownBy ((((w.setCell ⟨g, 1, none⟩ (.int .u8 (p'.toNat : Int))).setCell ⟨g, 2, none⟩ (.int .i64 pos')).setCell ⟨g, 39, none⟩ v').setCell ⟨g, 40, none⟩ (.int .i64 (n' : Int))) (some g) := by
  refine ⟨?_, grown_two (grown_two (grown_two (grown_one _ _ _ _) (grown_one _ _ _ _)) (grown_one _ _ _ _)) (grown_one _ _ _ _)⟩
  unfold PaAt at hp ⊢
  rw [row_setCell_at (row_setCell_at (row_setCell_at (row_setCell_at hp)))]
  obtain ⟨s0, p0, n0, ⟨s1, x1⟩, ⟨s2, x2⟩, q0, k0⟩ := h
  obtain ⟨a1, a2, a3, a4, a5, a6, a7, a8, a9, a10, a11, a12, a13, a14, a15, a16, rfl⟩ := list16 hw.1
  obtain ⟨b1, b2, b3, b4, b5, b6, b7, b8, b9, b10, b11, b12, b13, b14, b15, b16, rfl⟩ := list16 hw.2
  rfl
theorem PaAt.parted (hp : PaAt w g h v n) (hw : h.Wide) (b : Bool) : PaAt (w.setCell ⟨g, 37, none⟩ (.bool b)) g ⟨h.six, h.proto, h.pos, h.src, h.dst, b, h.hops⟩ v n := by
  unfold PaAt at hp ⊢
  rw [row_setCell_at hp]
  obtain ⟨s0, p0, n0, ⟨s1, x1⟩, ⟨s2, x2⟩, q0, k0⟩ := h
  obtain ⟨a1, a2, a3, a4, a5, a6, a7, a8, a9, a10, a11, a12, a13, a14, a15, a16, rfl⟩ := list16 hw.1
  obtain ⟨b1, b2, b3, b4, b5, b6, b7, b8, b9, b10, b11, b12, b13, b14, b15, b16, rfl⟩ := list16 hw.2
  rfl
end
theorem and_bits (q : Nat) (h : q < 65536) : ∃ z : Nat, bits .and .i64 (q : Int) 65529 = (z : Int) ∧ ((z : Int) != 0) = decide (q / 8 ≠ 0 ∨ q % 2 = 1) := by
  have h1 : ∀ b : Fin 256, b.val &&& 249 = b.val / 8 * 8 + b.val % 2 := by decide +kernel
  have h2 : ∀ b : Fin 256, b.val &&& 255 = b.val := by decide +kernel
  have e1 : (q &&& 65529) % 256 = q % 256 / 8 * 8 + q % 256 % 2 := by
    rw [show 256 = 2 ^ 8 by rfl, Nat.and_mod_two_pow]
    exact h1 ⟨q % 256, Nat.mod_lt _ (by omega)⟩
  have e2 : (q &&& 65529) / 256 = q / 256 := by
    rw [show 256 = 2 ^ 8 by rfl, Nat.and_div_two_pow]
    exact h2 ⟨q / 256, by omega⟩
  refine ⟨q &&& 65529, ?_, ?_⟩
  · have a1 : (BitVec.ofInt 64 (q : Int)).toNat = q := by rw [BitVec.toNat_ofInt]; omega
    have a2 : (BitVec.ofInt 64 65529).toNat = 65529 := by decide
    have key : (BitVec.ofInt 64 (q : Int) &&& BitVec.ofInt 64 65529).toNat = q &&& 65529 := by rw [BitVec.toNat_and, a1, a2]
    show IntKind.i64.wrap ((BitVec.ofInt 64 (q : Int) &&& BitVec.ofInt 64 65529).toNat : Nat) = _
    rw [key]
    exact IntWalk.i64_in _ (by omega)
  · obtain ⟨z, hz⟩ : ∃ z, z = q &&& 65529 := ⟨_, rfl⟩
    rw [← hz] at e1 e2 ⊢
    by_cases h0 : z = 0
    · rw [h0, decide_eq_false (by omega)]; rfl
    · rw [decide_eq_true (by omega)]; simp; omega
/-- What pass leaves. -/
def PaOut (w : World) (g : Nat) (h : Hd) (r : List UInt8) (n : Nat) (B : Nat) (w' : World) : Prop := ∃ A' c', PaAt w' g (sxNext h r) (.slice A' (r.drop (sxSize h.proto r)).length c') (n + 1) ∧ Rd w B (.slice A' (r.drop (sxSize h.proto r)).length c') (cellsB (r.drop (sxSize h.proto r))) ∧ w.grownBy w' (some g)
set_option maxRecDepth 100000 in
set_option maxHeartbeats 1000000 in
theorem sxPass_any {w : World} {g : Nat} {h : Hd} {A : Option Addr} {c n B : Nat} {r : List UInt8} (hp : PaAt w g h (.slice A r.length c) n) (hw : h.Wide) (hr : Rd w B (.slice A r.length c) (cellsB r)) (hB : B ≤ g) (hpos : 0 ≤ h.pos ∧ h.pos ≤ 1000000) (hn : n ≤ 100) (hl : r.length ≤ 100000) :
    Calls Try.prog 75 #[.pointer (some ⟨g, 0, none⟩)] w fun e w' => e = .returned (.int .i64 ((sxPassE h.proto r : Nat) : Int)) ∧ (sxPassE h.proto r ≠ 0 → w = w') ∧ (sxPassE h.proto r = 0 → PaOut w g h r n B w') := by
  obtain ⟨c1, c2, c37, c39, c40⟩ := hp.cells hw
  have f1 := hp.free 1
  have f2 := hp.free 2
  have f37 := hp.free 37
  have f39 := hp.free 39
  have f40 := hp.free 40
  obtain ⟨m, hm⟩ : ∃ m, m = r.length := ⟨_, rfl⟩
  by_cases h8 : m < 8
  · have e : sxPassE h.proto r = 9 := by unfold sxPassE; rw [if_pos (by omega)]
    rw [e]
    rw [← hm] at c39
    clear hp hr hm e hw hl hB hpos hn
    go_enter Try.func75, Try.ntmps75
    go_wp2_with fail
    go_ret
    exact ⟨rfl, fun _ => rfl, fun h => absurd h (by decide)⟩
  obtain ⟨b, o, rfl, hb, hc⟩ := hr.addr (by omega)
  have hne : ¬ b = g := by omega
  have hne' : ¬ g = b := by omega
  have d0 := hc 0 (by omega)
  have d1 := hc 1 (by omega)
  rw [Nat.add_zero] at d0
  obtain ⟨x0, hx0⟩ : ∃ x, x = r[0]'(by omega) := ⟨_, rfl⟩
  obtain ⟨x1, hx1⟩ : ∃ x, x = r[1]'(by omega) := ⟨_, rfl⟩
  have g0 : r.getD 0 0 = x0 := by rw [hx0, getD_get (by omega)]
  have g1 : r.getD 1 0 = x1 := by rw [hx1, getD_get (by omega)]
  rw [← hx0] at d0
  rw [← hx1] at d1
  have hx1l := x1.toNat_lt
  obtain ⟨P, hP⟩ : ∃ P : Nat, h.pos = (P : Int) ∧ P ≤ 1000000 := ⟨h.pos.toNat, by omega, by omega⟩
  have hnw : IntKind.i64.wrap ((n : Int) + 1) = ((n + 1 : Nat) : Int) := by rw [IntWalk.i64_in _ (by omega)]; omega
  obtain ⟨n1, hn1⟩ : ∃ n1, n1 = n + 1 := ⟨_, rfl⟩
  rw [← hn1] at hnw
  obtain ⟨S, hS⟩ : ∃ S, S = sxSize h.proto r := ⟨_, rfl⟩
  have hout : Hid (∀ k : S ≤ m, ∃ A', (∀ W : World, (Instr.sliceAt 22 (.slice (some ⟨b, o, none⟩) m c) (some (.int .i64 (S : Int))) none none).run Try.prog W = .ok (.slice A' (m - S) (c - S)) W) ∧ Rd w B (.slice A' (m - S) (c - S)) (cellsB (r.drop S))) := Lib.hid fun k => by
    obtain ⟨A', hA', kc⟩ := cut_l (P := Try.prog) (t := 22) Try.underlying22 (i := _) (e := 5) rfl rfl (some ⟨b, o, none⟩) m c S k (S : Int) rfl
    have hr2 := hr.cut (lo := S) (hi := m) k (by omega)
    rw [← hA', hm, List.take_of_length_le (by rw [cellsB_length]; omega), cellsB_drop] at hr2
    rw [hm] at kc ⊢
    exact ⟨A', kc, hr2⟩
  have hdl : (r.drop S).length = m - S := by rw [List.length_drop, hm]
  have hPw : IntKind.i64.wrap ((P : Int) + (S : Int)) = ((P + S : Nat) : Int) := by
    have : S ≤ 8 + 8 * 255 := by rw [hS]; unfold sxSize; split; omega; rw [g1]; omega
    rw [IntWalk.i64_in _ (by omega)]; omega
  have hfin : Hid (∀ (b' : Bool) (A' : Option Addr) (c' : Nat), Rd w B (.slice A' (m - S) c') (cellsB (r.drop S)) → b' = (h.part || (decide (h.proto = 44) && sxBits r)) → ∀ w0, PaAt w0 g ⟨h.six, h.proto, h.pos, h.src, h.dst, b', h.hops⟩ (.slice (some ⟨b, o, none⟩) m c) n → w.grownBy w0 (some g) →
      PaOut w g h r n B ((((w0.setCell ⟨g, 1, none⟩ (.int .u8 (x0.toNat : Int))).setCell ⟨g, 2, none⟩ (.int .i64 ((P + S : Nat) : Int))).setCell ⟨g, 39, none⟩ (.slice A' (m - S) c')).setCell ⟨g, 40, none⟩ (.int .i64 (n1 : Int)))) := Lib.hid fun b' A' c' hrd hb' w0 hp0 hg0 => by
    obtain ⟨q1, q2⟩ := hp0.next hw x0 ((P + S : Nat) : Int) (.slice A' (m - S) c') n1
    refine ⟨A', c', ?_, ?_, grown_two hg0 q2⟩
    · rw [← hS, hdl]
      have : sxNext h r = ⟨h.six, x0, ((P + S : Nat) : Int), h.src, h.dst, b', h.hops⟩ := by
        unfold sxNext
        rw [g0, ← hS, hb', hP.1]
        congr 1
      rw [this, ← hn1]
      exact q1
    · rw [← hS, hdl]; exact hrd
  obtain ⟨Q, hQ⟩ : ∃ Q, Q = P + S := ⟨_, rfl⟩
  rw [← hQ] at hfin hPw
  have hE : sxPassE h.proto r = if m < S then 9 else 0 := by
    unfold sxPassE
    rw [← hS, ← hm]
    by_cases k : m < S
    · rw [if_pos (.inr k), if_pos k]
    · rw [if_neg (by omega), if_neg k]
  rw [hE]
  rw [← hm] at c39
  rw [hP.1] at c2
  by_cases h44 : h.proto = 44
  · have hS8 : S = 8 := by rw [hS]; unfold sxSize; rw [if_pos h44]
    subst hS8
    rw [if_neg h8]
    obtain ⟨A', kc, hrd⟩ := hout.out (by omega)
    have hN := Lib.hid (sxNumber_any (a := 2) hr (by omega))
    obtain ⟨q, hq⟩ : ∃ q, q = num2 r 2 := ⟨_, rfl⟩
    have hql := num2_lt r 2
    rw [← hq] at hql
    obtain ⟨z, kz1, kz2⟩ := and_bits q hql
    have hzb : ((z : Int) != 0) = sxBits r := by rw [kz2]; unfold sxBits; rw [← hq]
    rw [← hq, ← hm] at hN
    have hfin2 : Hid (∀ b' : Bool, b' = (h.part || sxBits r) → PaOut w g h r n B (((((w.setCell ⟨g, 37, none⟩ (.bool b')).setCell ⟨g, 1, none⟩ (.int .u8 (x0.toNat : Int))).setCell ⟨g, 2, none⟩ (.int .i64 (Q : Int))).setCell ⟨g, 39, none⟩ (.slice A' (m - 8) (c - 8))).setCell ⟨g, 40, none⟩ (.int .i64 (n1 : Int)))) := Lib.hid fun b' hb' => by
      rw [hm] at *
      exact hfin.out b' A' _ hrd (by rw [hb', decide_eq_true h44]; rfl) _ (hp.parted hw b') (grown_one _ _ _ _)
    rw [h44] at c1
    generalize sxBits r = β at hzb hfin2
    generalize h.part = α at c37 hfin2
    have hm8 : 8 ≤ m := by omega
    clear hfin hout hE h8 hq hql kz2 hS hdl hp hr hc hw hpos hP hQ hx0 hx1 g0 g1 h44 hrd hB hl hb hx1l d1 hn hn1
    clear hm
    obtain ⟨m1, hm1⟩ : ∃ m1, m1 = m - 8 := ⟨_, rfl⟩
    obtain ⟨c1', hc1'⟩ : ∃ c1', c1' = c - 8 := ⟨_, rfl⟩
    rw [← hm1, ← hc1'] at kc hfin2
    clear hm1 hc1'
    have kc8 : ∀ W : World, (Instr.sliceAt 22 (.slice (some ⟨b, o, none⟩) m c) (some (.int .i64 8)) none none).run Try.prog W = .ok (.slice A' m1 c1') W := kc
    have hPw8 : IntKind.i64.wrap ((P : Int) + 8) = (Q : Int) := hPw
    clear kc hPw
    cases α
    · go_enter Try.func75, Try.ntmps75
      go_wp2_with (go_at_call 72; refine hN.out.mono ?_; rintro e w1 ⟨rfl, rfl⟩)
      go_ret
      exact ⟨rfl, fun h => absurd rfl h, fun _ => hfin2.out _ rfl⟩
    · go_enter Try.func75, Try.ntmps75
      go_wp2_with fail
      go_ret
      exact ⟨rfl, fun h => absurd rfl h, fun _ => hfin2.out _ rfl⟩
  · have k44 : ((h.proto.toNat : Int) == 44) = false := beq_u8 (k := 44) (toNat_ne h44)
    have hSv : S = 8 + 8 * x1.toNat := by rw [hS]; unfold sxSize; rw [if_neg h44, g1]
    have kw1 : IntKind.i64.wrap (8 * (x1.toNat : Int)) = ((8 * x1.toNat : Nat) : Int) := by rw [IntWalk.i64_in _ (by omega)]; omega
    obtain ⟨y, hy⟩ : ∃ y, y = 8 * x1.toNat := ⟨_, rfl⟩
    rw [← hy] at kw1
    have kw2 : IntKind.i64.wrap (8 + (y : Int)) = (S : Int) := by rw [IntWalk.i64_in _ (by omega)]; omega
    have hxi : (x1.toNat : Int) < 256 := by omega
    by_cases hmS : m < S
    · rw [if_pos hmS]
      clear hfin hout hE hS hdl hp hr hc hw hpos hP hQ hx0 hx1 g0 g1 h44 hB hl hb hn hn1 hSv hy hm hPw
      go_enter Try.func75, Try.ntmps75
      go_wp2_with fail
      go_ret
      exact ⟨rfl, fun _ => rfl, fun h => absurd h (by decide)⟩
    · rw [if_neg hmS]
      obtain ⟨A', kc, hrd⟩ := hout.out (by omega)
      have hfin2 := Lib.hid (hfin.out h.part A' _ hrd (by rw [decide_eq_false h44]; simp) w (by rw [hm]; exact hp) (grown_none _ _))
      clear hfin hout hE hS hdl hp hr hc hw hpos hP hQ hx0 hx1 g0 g1 h44 hB hl hb hn hn1 hSv hy hm hrd
      obtain ⟨m1, hm1⟩ : ∃ m1, m1 = m - S := ⟨_, rfl⟩
      obtain ⟨c1', hc1'⟩ : ∃ c1', c1' = c - S := ⟨_, rfl⟩
      rw [← hm1, ← hc1'] at kc hfin2
      clear hm1 hc1'
      go_enter Try.func75, Try.ntmps75
      go_wp2_with fail
      go_ret
      exact ⟨rfl, fun h => absurd rfl h, fun _ => hfin2.out⟩
end Go.Proofs.Ytejppekcniehpaa
