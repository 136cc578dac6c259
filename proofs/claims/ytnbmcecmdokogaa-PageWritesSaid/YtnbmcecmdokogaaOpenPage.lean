/-
  A page as an argument, by value, opened: its kind, its generation, its Body.
-/
import Derived.Test.YtnbmcecmdokogaaOpen
import Derived.Lib.SmallJoins
import Derived.Deep.Fields
import Derived.ChangeSame
namespace Go.Proofs.Ytnbmcecmdokogaa
open Go.Joins Go.ChangeShapes Go.WideShapes Go.ChangeAt Go.RowKit Go.Deep
section
variable {H : Type} {enc : TypeId × Value → H} {P : Program} {w : World} {base : Nat} {held : Bool}
theorem open_page {r : Reach} {b0 : Nat} {t ti tu ts tb : TypeId} {f0 f1 f2 : Field} {v : Value} {d : DataW H} {p : List MemPlace} (hs : P.underlying t = some (.struct #[f0, f1, f2])) (hone : oneCellFields P #[f0, f1, f2] = true) (hC : P.cellsOf t = 3)
    (e0 : f0.type = ti) (e1 : f1.type = tu) (e2 : f2.type = ts) (hi : P.underlying ti = some (.int .i64)) (hu : P.underlying tu = some (.int .u64)) (hts : P.underlying ts = some (.slice tb)) (htb : P.underlying tb = some (.int .u8)) (hc : P.cellsOf tb = 1)
    (hv : Value.okWide P w r b0 t v) (h : DataW.Trod enc P w base (fun _ => true) held t v d p) :
    ∃ (k : Int) (g : Nat) (A : Option Addr) (c : Nat) (l : List UInt8), v = .agg #[.int .i64 k, .int .u64 (g : Int), .slice A l.length c] ∧ (Lit.int .i64 k).wf = true ∧ g < 18446744073709551616 ∧ Rd w w.heap.size (.slice A l.length c) (cellsB l) := by
  obtain ⟨v0, v1, v2, y0, y1, y2, n, rfl, _, _, h0, h1, h2⟩ := open_agg3 hs hone hC hv h
  rw [e0] at h0
  rw [e1] at h1
  rw [e2] at h2
  obtain ⟨k, k1, _, kw⟩ := DataW.trod_int hi h0
  obtain ⟨g, g1, _, gw⟩ := DataW.trod_int hu h1
  obtain ⟨l, hl⟩ := open_bytes hts htb hc h2
  injection k1 with k1
  injection g1 with g1
  subst k1 g1
  obtain ⟨A, c, rfl, _, _, hl⟩ := hl.bytes
  have hb : 0 ≤ g ∧ g ≤ 18446744073709551615 := by simpa [Lit.wf, IntKind.min, IntKind.max, IntKind.bits, IntKind.signed] using gw
  obtain ⟨m, rfl⟩ := Int.eq_ofNat_of_zero_le hb.1
  exact ⟨k, m, A, c, l, rfl, kw, by omega, hl⟩
end
end Go.Proofs.Ytnbmcecmdokogaa
