/-
  The document's reader of heads of IPv4: Of, by contract.
-/
import Derived.Test.YtejppekcniehpaaIfMath
import Derived.Test.YtejppekcniehpaaIfC
import Derived.Test.YtejppekcniehpaaAdC
namespace Go.Proofs.Ytejppekcniehpaa
open Go.RowKit
/-- An address of which k of four bytes are laid. -/
def part4 (l : List UInt8) (k : Nat) : Ad := ⟨false, List.replicate 12 0 ++ (l.take k ++ List.replicate (4 - k) 0)⟩
theorem part4_wide {l : List UInt8} (h : l.length = 4) {k : Nat} (hk : k ≤ 4) : (part4 l k).Wide := by
  show (List.replicate 12 (0 : UInt8) ++ (l.take k ++ List.replicate (4 - k) 0)).length = 16
  simp [h]
  omega
theorem part4_next {l : List UInt8} (h : l.length = 4) {k : Nat} (hk : k < 4) : adC (part4 l (k + 1)) = (adC (part4 l k)).set (1 + (12 + k)) (.int .u8 ((l.getD k 0).toNat : Int)) := by
  obtain ⟨a, b, c, d, rfl⟩ := list4 h
  match k, hk with
  | 0, _ => rfl
  | 1, _ => rfl
  | 2, _ => rfl
  | 3, _ => rfl
theorem AdAt.put {w : World} {g j : Nat} {a b : Ad} {u : Value} (h : AdAt w g a) (e : adC b = (adC a).set j u) : AdAt (w.setCell ⟨g, j, none⟩ u) g b := by
  unfold AdAt at h ⊢
  rw [e]
  have : (w.setCell ⟨g, j, none⟩ u).heap[g]? = some (.cells ((adC a).toArray.setIfInBounds j u) 25 (0, 0)) := by
    simp [World.setCell, Array.getElem?_modify, h]
  rw [this]
  simp
theorem AdAt.loose {w : World} {g : Nat} {a : Ad} (h : AdAt w g a) (j : Nat) : w.frozen? ⟨g, j, none⟩ = false := by
  unfold AdAt at h
  unfold World.frozen?
  simp [h]
theorem AdAt.off {w : World} {g k j : Nat} {a : Ad} {u : Value} (h : AdAt w g a) (hk : g ≠ k) : AdAt (w.setCell ⟨k, j, none⟩ u) g a := (Below.heap_setCell w ⟨k, j, none⟩ u g hk).trans h
set_option maxRecDepth 100000 in
theorem rifOf_any {A : Option Addr} {c : Nat} {l : List UInt8} {w : World} {B : Nat} (hr : Rd w B (.slice A l.length c) (cellsB l)) (hB : B ≤ w.heap.size) (h : l.length = 4) :
    Calls Try.prog 34 #[.slice A l.length c] w fun e w' => e = .returned (adV (ad4 l)) ∧ Below w.heap.size w w' := by
  obtain ⟨b, o, rfl, hbl, hc⟩ := hr.addr (by omega)
  have hz : ∀ w, (zeroValue 25).run Try.prog w = .ok (.agg (adC Ad.zero).toArray) w := zero_ad
  have hbu : ∀ W, (Instr.build 25 #[]).run Try.prog W = .ok (.agg (adC Ad.zero).toArray) W := fun W => by
    simp [Instr.build, hz, go_sem]
  have h0 := heap_alloc_last w (.cells (adC Ad.zero).toArray 25)
  have h1 := heap_alloc_last (w.alloc (.cells (adC Ad.zero).toArray 25)) (.cells (adC Ad.zero).toArray 25)
  have h01 := (heap_alloc_old (w.alloc (.cells (adC Ad.zero).toArray 25)) (.cells (adC Ad.zero).toArray 25) (show w.heap.size < _ by simp)).trans h0
  rw [show (w.alloc (.cells (adC Ad.zero).toArray 25)).heap.size = w.heap.size + 1 by simp] at h1
  obtain ⟨w5, hst, hsc, hat5, hgr5, _⟩ := store_ad (b := Ad.zero) h1 rfl rfl
  have h5 : AdAt w5 w.heap.size Ad.zero := (hgr5.block _ (by simp; omega) (fun e => by simp at e)).trans h01
  have hln : (adC Ad.zero).length = 17 := rfl
  have hstart : Hid (AdAt w5 (w.heap.size + 1) (part4 l 0) ∧ AdAt w5 w.heap.size Ad.zero ∧ Below w.heap.size w w5) := Lib.hid ⟨hat5, h5, grown_below (up_alloc (up_alloc (Below.refl _ _) _) _) hgr5 (Nat.le_succ _)⟩
  have hcell : Hid (∀ W, Below w.heap.size w W → ∀ k, k < 4 → W.cell? ⟨b, o + k, none⟩ = some (.int .u8 ((l.getD k 0).toNat : Int))) := Lib.hid fun W hW k hk => by
    have := (hW.cell (p := ⟨b, o + k, none⟩) (by show b < w.heap.size; omega)).trans (hc k (by omega))
    rw [this, List.getD_eq_getElem?_getD, List.getElem?_eq_getElem (by omega)]
    rfl
  rw [h]
  rw [adV] at hst
  have Hl := Lib.hid h
  clear h0 h1 h01 h5 hat5 hgr5 hc hr hbl h
  generalize hZ : adC Ad.zero = Z at *
  clear hZ
  go_enter Try.func34, Try.ntmps34
  go_wp2_with (first
    | (with_reducible refine wpList_alloc_zero (o := ⟨some 2, .alloc 25, _, _, _, _⟩) rfl 25 rfl Z.toArray hz ?_)
    | (with_reducible refine wpList_alloc_zero (o := ⟨some 3, .alloc 25, _, _, _, _⟩) rfl 25 rfl Z.toArray hz ?_)
    | ((with_reducible refine wpList_stored (o := ⟨none, .store 25 (.tmp 3) (.tmp 5), _, _, _, none⟩) rfl 25 (.tmp 3) (.tmp 5) rfl (.pointer (some ⟨w.heap.size + 1, 0, none⟩)) (.agg Z.toArray) ?_ ?_ w5 hst ?_); exact rfl; exact rfl))
  go_loopw [4] (fun iv wr => ∃ k : Nat, k ≤ 4 ∧ iv = .int .i64 (k : Int) ∧ Hid (AdAt wr (w.heap.size + 1) (part4 l k) ∧ AdAt wr w.heap.size Ad.zero ∧ Below w.heap.size w wr)) (fun iv _ => 4 - (intOf iv).toNat)
  case atStart => exact ⟨0, by omega, rfl, hstart⟩
  case round =>
    obtain ⟨k, hk4, rfl, HI⟩ := hrel
    by_cases hk : k < 4
    · obtain ⟨hp, hq, hb⟩ := HI.out
      have k0 := hcell.out wr hb k hk
      have hnext := part4_next Hl.out hk
      obtain ⟨x, hx⟩ : ∃ x, x = l.getD k 0 := ⟨_, rfl⟩
      rw [← hx] at k0 hnext
      clear hx
      have hp2 := hp.put hnext
      have hq2 := hq.off (j := 1 + (12 + k)) (u := .int .u8 (x.toNat : Int)) (show w.heap.size ≠ w.heap.size + 1 by omega)
      have hb2 := hb.setCell (p := ⟨w.heap.size + 1, 1 + (12 + k), none⟩) (Nat.le_succ _) (.int .u8 (x.toNat : Int))
      have HN := Lib.hid (And.intro hp2 (And.intro hq2 hb2))
      have hf0 := hp.loose (1 + (12 + k))
      have k1 := adC_at hp (i := 12 + k) (by have : (part4 l k).b.length = 16 := part4_wide Hl.out hk4; omega)
      generalize ((part4 l k).b[12 + k]'(by have : (part4 l k).b.length = 16 := part4_wide Hl.out hk4; omega)) = u0 at k1
      have n1 : IntKind.i64.wrap (12 + (k : Int)) = ((12 + k : Nat) : Int) := by rw [IntWalk.i64_in _ (by omega)]; omega
      have n2 : ((12 + k : Nat) : Int) < 16 := by omega
      have n3 : (k : Int) < 4 := by omega
      clear hp hq hb hnext hp2 hq2 hb2 HI
      go_wp2_with fail
      exact ⟨⟨k + 1, by omega, by go_num, HN⟩, by simp [intOf]; omega⟩
    · have : k = 4 := by omega
      subst this
      obtain ⟨hp, hq, hb⟩ := HI.out
      have hx : (ad4 l).Wide := ad4_wide Hl.out
      have e4 : part4 l 4 = ad4 l := by
        obtain ⟨a, b, c, d, rfl⟩ := list4 Hl.out
        rfl
      rw [e4] at hp
      have hxi := info_adA hx
      obtain ⟨w6, hst6, hsc6, hat6, hgr6, _⟩ := store_ad (b := ad4 l) hq rfl hx
      have HT := Lib.hid (And.intro hat6 (grown_below hb hgr6 (Nat.le_refl _)))
      have hln6 := adC_length hx
      rw [AdAt] at hp
      rw [adV] at hst6
      obtain ⟨C, hC⟩ : ∃ C, C = adC (ad4 l) := ⟨_, rfl⟩
      rw [← hC] at hp hxi hst6 hsc6 hln6
      have HC := Lib.hid hC
      clear hC hat6 hgr6 hq hb HI hcell hx e4
      go_wp2_with (first
        | ((with_reducible refine wpList_load_row (o := ⟨some 18, .load 25 (.tmp 3), _, _, _, _⟩) rfl 25 (.tmp 3) rfl (w.heap.size + 1) ?_ 25 C.toArray (0, 0) _ hp Try.underlying25 rfl hxi ?_); exact rfl)
        | ((with_reducible refine wpList_stored (o := ⟨none, .store 25 (.tmp 2) (.tmp 18), _, _, _, none⟩) rfl 25 (.tmp 2) (.tmp 18) rfl (.pointer (some ⟨w.heap.size, 0, none⟩)) (.agg C.toArray) ?_ ?_ w6 hst6 ?_); exact rfl; exact rfl))
      refine bodyPost_ret (results_cell_row (p := 2) (ty := 25) (by kernel_rfl) _ _ w.heap.size 25 _ (0, 0) _ rfl (by rw [HC.out]; exact HT.out.1) Try.underlying25 rfl hxi) rfl ⟨by rw [HC.out], HT.out.2⟩
end Go.Proofs.Ytejppekcniehpaa
