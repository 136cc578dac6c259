/-
  An address as an argument, by value, opened.
-/
import Derived.Test.YtcandokefhbneaaOpenArr
import Derived.Test.YtcandokefhbneaaAdC
import Derived.ChangeSame
namespace Go.Proofs.Ytcandokefhbneaa
open Go.ChangeShapes Go.WideShapes Go.ChangeAt Go.RowKit Go.Deep
section
variable {H : Type} {enc : TypeId × Value → H} {w : World} {base : Nat} {held : Bool}
theorem cells_bytes {P : Program} {t e : TypeId} {n m : Nat} {cs : List Value} {y : DataW H × List MemPlace} (ht : P.underlying t = some (.array n e)) (he : P.underlying e = some (.int .u8)) (ce : P.cellsOf e = 1) (ct : P.cellsOf t = n)
    (h : DataW.trod enc P w base (fun _ => true) held m t cs = some y) : ∃ l : List UInt8, cs = cellsB l ∧ l.length = n := by
  cases m with
  | zero => simp [DataW.trod] at h
  | succ m =>
    unfold DataW.trod at h
    rw [ht] at h
    simp only [ct, ce] at h
    by_cases hl : cs.length = n
    · rw [if_pos hl, Option.map_eq_some_iff] at h
      obtain ⟨ys, hy, _⟩ := h
      have hlen := mapM_some_length hy
      obtain ⟨l, rfl⟩ := open_cellsB (enc := enc) (w := w) (base := base) (held := held) he cs fun u hu => by
        obtain ⟨k, hk, rfl⟩ := List.mem_iff_getElem.1 hu
        have hget := mapM_some_get hy k k (by rw [List.getElem?_range (by omega)])
        have hk2 : k < ys.length := by rw [hlen, List.length_range]; omega
        rw [List.getElem?_eq_getElem hk2] at hget
        refine ⟨m, ys[k], ?_⟩
        rw [← hget]
        congr 1
        simp [List.take_one, List.head?_drop, hk]
      exact ⟨l, rfl, by rw [← hl, cellsB_length]⟩
    · rw [if_neg hl] at h; cases h
theorem cells_ad {m : Nat} {cs : List Value} {y : DataW H × List MemPlace} (h : DataW.trod enc Try.prog w base (fun _ => true) held m 31 cs = some y) : ∃ a : Ad, a.Wide ∧ cs = adC a := by
  obtain ⟨y0, y1, n, _, hl, h0, h1⟩ := trod_struct2 Try.underlying31 h
  dsimp only at h0 h1
  rw [show Try.prog.cellsOf 31 = 17 by kernel_rfl] at hl
  rw [show Try.prog.cellsOf 4 = 1 by kernel_rfl, List.drop_zero] at h0
  rw [show Try.prog.cellsOf 29 = 16 by kernel_rfl, List.take_of_length_le (by rw [List.length_drop]; omega)] at h1
  obtain ⟨b, k1, _⟩ := DataW.trod_bool Try.underlying4 h0
  obtain ⟨l, k2, hl2⟩ := cells_bytes Try.underlying29 Try.underlying5 (by kernel_rfl) (by kernel_rfl) h1
  refine ⟨⟨b, l⟩, hl2, ?_⟩
  rw [← List.take_append_drop 1 cs, k1, k2]
  rfl
set_option maxRecDepth 10000 in
theorem open_addr {r : Reach} {b0 : Nat} {v : Value} {d : DataW H} {p : List MemPlace} (hv : Value.okWide Try.prog w r b0 31 v) (h : DataW.Trod enc Try.prog w base (fun _ => true) held 31 v d p) : ∃ a : Ad, v = adV a ∧ a.Wide := by
  simp only [Value.okWide, Try.underlying31] at hv
  obtain ⟨cs, rfl, _⟩ := hv
  obtain ⟨m, hm⟩ := h
  obtain ⟨a, ha, e⟩ := cells_ad hm
  refine ⟨a, ?_, ha⟩
  rw [adV, ← e]
  rfl
end
theorem lit_u8 {k : Int} (kw : (Lit.int .u8 k).wf = true) : ∃ x : UInt8, k = (x.toNat : Int) := by
  have hb : 0 ≤ k ∧ k ≤ 255 := by simpa [Lit.wf, IntKind.min, IntKind.max, IntKind.bits, IntKind.signed] using kw
  refine ⟨UInt8.ofNat k.toNat, ?_⟩
  have : (UInt8.ofNat k.toNat).toNat = k.toNat % 256 := by simp
  rw [this]
  omega
theorem lit_u16 {k : Int} (kw : (Lit.int .u16 k).wf = true) : ∃ x : Nat, x < 65536 ∧ k = (x : Int) := by
  have hb : 0 ≤ k ∧ k ≤ 65535 := by simpa [Lit.wf, IntKind.min, IntKind.max, IntKind.bits, IntKind.signed] using kw
  exact ⟨k.toNat, by omega, by omega⟩
end Go.Proofs.Ytcandokefhbneaa
