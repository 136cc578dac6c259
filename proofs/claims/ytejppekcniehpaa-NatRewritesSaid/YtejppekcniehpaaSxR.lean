/-
  The document's reader of heads of IPv6: Of, Between, by contract.
-/
import Derived.Test.YtejppekcniehpaaSxC
import Derived.Test.YtejppekcniehpaaIfR
namespace Go.Proofs.Ytejppekcniehpaa
open Go.RowKit
/-- An address of which k of sixteen bytes are laid. -/
def part16 (l : List UInt8) (k : Nat) : Ad := ⟨true, l.take k ++ List.replicate (16 - k) 0⟩
theorem part16_wide {l : List UInt8} (h : l.length = 16) {k : Nat} (hk : k ≤ 16) : (part16 l k).Wide := by
  show (l.take k ++ List.replicate (16 - k) 0).length = 16
  simp [h]
  omega
theorem part16_next {l : List UInt8} (h : l.length = 16) {k : Nat} (hk : k < 16) : adC (part16 l (k + 1)) = (adC (part16 l k)).set (1 + k) (.int .u8 ((l.getD k 0).toNat : Int)) := by
  obtain ⟨a1, a2, a3, a4, a5, a6, a7, a8, a9, a10, a11, a12, a13, a14, a15, a16, rfl⟩ := list16 h
  match k, hk with
  | 0, _ => rfl
  | 1, _ => rfl
  | 2, _ => rfl
  | 3, _ => rfl
  | 4, _ => rfl
  | 5, _ => rfl
  | 6, _ => rfl
  | 7, _ => rfl
  | 8, _ => rfl
  | 9, _ => rfl
  | 10, _ => rfl
  | 11, _ => rfl
  | 12, _ => rfl
  | 13, _ => rfl
  | 14, _ => rfl
  | 15, _ => rfl
  | j + 16, h => exact absurd h (by omega)
set_option maxRecDepth 100000 in
theorem rsxBetween_any (p : UInt8) (w : World) : Calls Try.prog 36 #[.int .u8 (p.toNat : Int)] w fun e w' => e = .returned (.bool (stands p)) ∧ w = w' := by
  by_cases h0 : p = 0
  · subst h0
    go_enter Try.func36, Try.ntmps36
    go_wp2_with fail
    go_ret
    exact ⟨rfl, rfl⟩
  by_cases h1 : p = 43
  · subst h1
    go_enter Try.func36, Try.ntmps36
    go_wp2_with fail
    go_ret
    exact ⟨rfl, rfl⟩
  by_cases h2 : p = 44
  · subst h2
    go_enter Try.func36, Try.ntmps36
    go_wp2_with fail
    go_ret
    exact ⟨rfl, rfl⟩
  by_cases h3 : p = 60
  · subst h3
    go_enter Try.func36, Try.ntmps36
    go_wp2_with fail
    go_ret
    exact ⟨rfl, rfl⟩
  have hs : stands p = false := by simp [stands, h0, h1, h2, h3]
  have k0 : ((p.toNat : Int) == 0) = false := beq_u8 (k := 0) (toNat_ne h0)
  have k1 : ((p.toNat : Int) == 43) = false := beq_u8 (k := 43) (toNat_ne h1)
  have k2 : ((p.toNat : Int) == 44) = false := beq_u8 (k := 44) (toNat_ne h2)
  have k3 : ((p.toNat : Int) == 60) = false := beq_u8 (k := 60) (toNat_ne h3)
  rw [hs]
  clear hs h0 h1 h2 h3
  go_enter Try.func36, Try.ntmps36
  go_wp2_with fail
  go_ret
  exact ⟨rfl, rfl⟩
theorem exec_bldOne {ρ : Operand → Value} {o : Oper} {t : TypeId} {k : Nat} {a : Operand} (ho : o.op = .build t #[(k, a)]) {u : Value} (ha : ρ a = u) {v : Value} {P : Program} {w : World} (hrun : (Instr.build t #[(k, u)]).run P w = .ok v w) : (execOp ρ o).run P w = .ok (.value v) w := by
  unfold execOp
  simp only [ho, List.map_toArray, List.map_cons, List.map_nil, ha, Sem.run_bind, hrun, Result.andThen_ok, Sem.run_pure]
set_option maxRecDepth 100000 in
theorem rsxOf_any {A : Option Addr} {c : Nat} {l : List UInt8} {w : World} {B : Nat} (hr : Rd w B (.slice A l.length c) (cellsB l)) (hB : B ≤ w.heap.size) (h : l.length = 16) :
    Calls Try.prog 35 #[.slice A l.length c] w fun e w' => e = .returned (adV (ad6 l)) ∧ Below w.heap.size w w' := by
  obtain ⟨b, o, rfl, hbl, hc⟩ := hr.addr (by omega)
  have hz : ∀ w, (zeroValue 25).run Try.prog w = .ok (.agg (adC Ad.zero).toArray) w := zero_ad
  have hbu : ∀ W, (Instr.build 25 #[(0, .bool true)]).run Try.prog W = .ok (.agg (adC ⟨true, List.replicate 16 0⟩).toArray) W := fun W => by kernel_rfl
  have h0 := heap_alloc_last w (.cells (adC Ad.zero).toArray 25)
  have h1 := heap_alloc_last (w.alloc (.cells (adC Ad.zero).toArray 25)) (.cells (adC Ad.zero).toArray 25)
  have h01 := (heap_alloc_old (w.alloc (.cells (adC Ad.zero).toArray 25)) (.cells (adC Ad.zero).toArray 25) (show w.heap.size < _ by simp)).trans h0
  rw [show (w.alloc (.cells (adC Ad.zero).toArray 25)).heap.size = w.heap.size + 1 by simp] at h1
  obtain ⟨w5, hst, hsc, hat5, hgr5, _⟩ := store_ad (b := ⟨true, List.replicate 16 0⟩) h1 rfl rfl
  have h5 : AdAt w5 w.heap.size Ad.zero := (hgr5.block _ (by simp; omega) (fun e => by simp at e)).trans h01
  have hln : (adC ⟨true, List.replicate 16 0⟩).length = 17 := rfl
  have hstart : Hid (AdAt w5 (w.heap.size + 1) (part16 l 0) ∧ AdAt w5 w.heap.size Ad.zero ∧ Below w.heap.size w w5) := Lib.hid ⟨hat5, h5, grown_below (up_alloc (up_alloc (Below.refl _ _) _) _) hgr5 (Nat.le_succ _)⟩
  have hcell : Hid (∀ W, Below w.heap.size w W → ∀ k, k < 16 → W.cell? ⟨b, o + k, none⟩ = some (.int .u8 ((l.getD k 0).toNat : Int))) := Lib.hid fun W hW k hk => by
    have := (hW.cell (p := ⟨b, o + k, none⟩) (by show b < w.heap.size; omega)).trans (hc k (by omega))
    rw [this, List.getD_eq_getElem?_getD, List.getElem?_eq_getElem (by omega)]
    rfl
  rw [h]
  rw [adV] at hst
  have Hl := Lib.hid h
  clear h0 h1 h01 h5 hat5 hgr5 hc hr hbl h
  generalize hZ : adC Ad.zero = Z at *
  generalize hY : adC ⟨true, List.replicate 16 0⟩ = Y at *
  clear hZ hY
  go_enter Try.func35, Try.ntmps35
  go_wp2_with (first
    | (with_reducible refine wpList_alloc_zero (o := ⟨some 2, .alloc 25, _, _, _, _⟩) rfl 25 rfl Z.toArray hz ?_)
    | ((with_reducible refine wpList_run (o := ⟨some 5, .build 25 #[(0, .const (.bool true))], _, _, _, _⟩) rfl (.agg Y.toArray) (w.alloc (.cells Z.toArray 25)) ?_ ?_); exact exec_bldOne (k := 0) (a := .const (.bool true)) rfl (u := .bool true) rfl (hbu _))
    | (with_reducible refine wpList_alloc_zero (o := ⟨some 3, .alloc 25, _, _, _, _⟩) rfl 25 rfl Z.toArray hz ?_)
    | ((with_reducible refine wpList_stored (o := ⟨none, .store 25 (.tmp 3) (.tmp 5), _, _, _, none⟩) rfl 25 (.tmp 3) (.tmp 5) rfl (.pointer (some ⟨w.heap.size + 1, 0, none⟩)) (.agg Y.toArray) ?_ ?_ w5 hst ?_); exact rfl; exact rfl))
  go_loopw [4] (fun iv wr => ∃ k : Nat, k ≤ 16 ∧ iv = .int .i64 (k : Int) ∧ Hid (AdAt wr (w.heap.size + 1) (part16 l k) ∧ AdAt wr w.heap.size Ad.zero ∧ Below w.heap.size w wr)) (fun iv _ => 16 - (intOf iv).toNat)
  case atStart => exact ⟨0, by omega, rfl, hstart⟩
  case round =>
    obtain ⟨k, hk16, rfl, HI⟩ := hrel
    by_cases hk : k < 16
    · obtain ⟨hp, hq, hb⟩ := HI.out
      have k0 := hcell.out wr hb k hk
      have hnext := part16_next Hl.out hk
      obtain ⟨x, hx⟩ : ∃ x, x = l.getD k 0 := ⟨_, rfl⟩
      rw [← hx] at k0 hnext
      clear hx
      have hp2 := hp.put hnext
      have hq2 := hq.off (j := 1 + k) (u := .int .u8 (x.toNat : Int)) (show w.heap.size ≠ w.heap.size + 1 by omega)
      have hb2 := hb.setCell (p := ⟨w.heap.size + 1, 1 + k, none⟩) (Nat.le_succ _) (.int .u8 (x.toNat : Int))
      have HN := Lib.hid (And.intro hp2 (And.intro hq2 hb2))
      have hf0 := hp.loose (1 + k)
      have k1 := adC_at hp (i := k) (by have : (part16 l k).b.length = 16 := part16_wide Hl.out hk16; omega)
      generalize ((part16 l k).b[k]'(by have : (part16 l k).b.length = 16 := part16_wide Hl.out hk16; omega)) = u0 at k1
      have n3 : (k : Int) < 16 := by omega
      clear hp hq hb hnext hp2 hq2 hb2 HI
      go_wp2_with fail
      exact ⟨⟨k + 1, by omega, by go_num, HN⟩, by simp [intOf]; omega⟩
    · have : k = 16 := by omega
      subst this
      obtain ⟨hp, hq, hb⟩ := HI.out
      have hx : (ad6 l).Wide := ad6_wide Hl.out
      have e4 : part16 l 16 = ad6 l := by
        obtain ⟨a1, a2, a3, a4, a5, a6, a7, a8, a9, a10, a11, a12, a13, a14, a15, a16, rfl⟩ := list16 Hl.out
        rfl
      rw [e4] at hp
      have hxi := info_adA hx
      obtain ⟨w6, hst6, hsc6, hat6, hgr6, _⟩ := store_ad (b := ad6 l) hq rfl hx
      have HT := Lib.hid (And.intro hat6 (grown_below hb hgr6 (Nat.le_refl _)))
      have hln6 := adC_length hx
      rw [AdAt] at hp
      rw [adV] at hst6
      obtain ⟨C, hC⟩ : ∃ C, C = adC (ad6 l) := ⟨_, rfl⟩
      rw [← hC] at hp hxi hst6 hsc6 hln6
      have HC := Lib.hid hC
      clear hC hat6 hgr6 hq hb HI hcell hx e4
      go_wp2_with (first
        | ((with_reducible refine wpList_load_row (o := ⟨some 17, .load 25 (.tmp 3), _, _, _, _⟩) rfl 25 (.tmp 3) rfl (w.heap.size + 1) ?_ 25 C.toArray (0, 0) _ hp Try.underlying25 rfl hxi ?_); exact rfl)
        | ((with_reducible refine wpList_stored (o := ⟨none, .store 25 (.tmp 2) (.tmp 17), _, _, _, none⟩) rfl 25 (.tmp 2) (.tmp 17) rfl (.pointer (some ⟨w.heap.size, 0, none⟩)) (.agg C.toArray) ?_ ?_ w6 hst6 ?_); exact rfl; exact rfl))
      refine bodyPost_ret (results_cell_row (p := 2) (ty := 25) (by kernel_rfl) _ _ w.heap.size 25 _ (0, 0) _ rfl (by rw [HC.out]; exact HT.out.1) Try.underlying25 rfl hxi) rfl ⟨by rw [HC.out], HT.out.2⟩
end Go.Proofs.Ytejppekcniehpaa
