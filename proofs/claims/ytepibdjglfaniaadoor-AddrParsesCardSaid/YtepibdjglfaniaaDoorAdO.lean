/-
  The address of a text: a contract.
-/
import Derived.Test.YtepibdjglfaniaaDoorAdM
import Derived.Test.YtepibdjglfaniaaDoorAdN
import Derived.Test.YtepibdjglfaniaaDoorAdG
namespace Go.Proofs.YtepibdjglfaniaaDoor
open Go.RowKit
theorem index_mem (l : List UInt8) (c : UInt8) : decide (0 ≤ Lib.indexByte l c) = decide (c ∈ l) := by
  have hg := Lib.indexByte_ge l c
  by_cases h : 0 ≤ Lib.indexByte l c
  · obtain ⟨o, ho⟩ : ∃ o : Nat, Lib.indexByte l c = o := ⟨(Lib.indexByte l c).toNat, by omega⟩
    have hm := List.mem_of_getElem? (Lib.indexByte_some ho).1
    rw [decide_eq_true h, decide_eq_true hm]
  · have hn : Lib.indexByte l c = -1 := by omega
    have hm : c ∉ l := fun hm => by
      obtain ⟨k, hk⟩ := List.mem_iff_getElem?.1 hm
      exact Lib.indexByte_none hn k hk
    rw [decide_eq_false h, decide_eq_false hm]
theorem build_ad (W : World) : (Instr.build 24 #[]).run Tryd.prog W = .ok (adV Ad.zero) W := by
  have hz := zero_ad W
  simp [Instr.build, hz, go_sem]
/-- A store in the block of a new address. -/
theorem store_up {w w1 : World} {x : Ad} (hx : x.Wide) (hat : AdAt w1 w.heap.size x) (hb1 : Below w.heap.size w w1) (wr : World) (hb : Below w1.heap.size w1 wr) (b : Ad) (hw : b.Wide) :
    ∃ w3, (Instr.storeAt 24 (.pointer (some ⟨w.heap.size, 0, none⟩)) (adV b)).run Tryd.prog wr = .ok () w3 ∧ AdAt w3 w.heap.size b ∧ Below w.heap.size w w3 := by
  obtain ⟨w3, hst, _, h3, hgr, _⟩ := store_ad (AdAt.below hat hb hat.lt) hx hw
  exact ⟨w3, hst, h3, grown_below (hb1.trans (hb.mono hb1.size)) hgr (Nat.le_refl _)⟩
set_option maxRecDepth 100000 in
theorem parse_long (s : List UInt8) (w : World) (h39 : 39 < s.length) (hs : s.length ≤ 1000) :
    Calls Tryd.prog 13 #[.string ⟨s.toArray⟩] w fun e w' => e = .returned (.tuple #[adV Ad.zero, .bool false]) ∧ Below w.heap.size w w' := by
  have hz := zero_ad
  have hbu := build_ad
  have hw := heap_alloc_last w (.cells (adC Ad.zero).toArray 24)
  obtain ⟨w2, hst, hat, hbel⟩ := store_up (w1 := w.alloc (.cells (adC Ad.zero).toArray 24)) (x := Ad.zero) rfl hw (up_alloc (Below.refl _ w) _) _ (Below.refl _ _) Ad.zero rfl
  have hsz : (⟨s.toArray⟩ : ByteArray).size = s.length := by simp [ByteArray.size]
  generalize hS : (⟨s.toArray⟩ : ByteArray) = S at hsz ⊢
  have hl1 : (39 : Int) < (S.size : Int) := by omega
  have hl2 : (S.size : Int) ≤ 1000 := by omega
  have Hat := Lib.hid hat
  have Hbel := Lib.hid hbel
  clear hat hbel hw hS hsz
  rw [adV] at hz hbu hst ⊢
  generalize hZ : (adC Ad.zero).toArray = Z at *
  have HZ := Lib.hid hZ
  go_enter Tryd.func13, Tryd.ntmps13
  go_wp2_with (first
    | (with_reducible refine wpList_alloc_zero (o := ⟨some 2, .alloc 24, _, _, _, _⟩) rfl 24 rfl Z hz ?_)
    | ((with_reducible refine wpList_stored (o := ⟨none, .store 24 (.tmp 2) (.tmp 10), _, _, _, none⟩) rfl 24 (.tmp 2) (.tmp 10) rfl (.pointer (some ⟨w.heap.size, 0, none⟩)) (.agg Z) ?_ ?_ w2 hst ?_); exact rfl; exact rfl))
  exact bodyPost_ret (ret_ad (p := 2) (q := 3) (by kernel_rfl) rfl Hat.out rfl rfl) rfl ⟨by rw [adV, HZ.out], Hbel.out⟩
end Go.Proofs.YtepibdjglfaniaaDoor
