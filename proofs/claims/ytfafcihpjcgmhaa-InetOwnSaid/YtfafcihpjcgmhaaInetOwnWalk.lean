/-
  The walk of InetOwn.
-/
import Derived.Test.YtfafcihpjcgmhaaInetE
namespace Go.Proofs.Ytfafcihpjcgmhaa
open Go.RowKit
theorem cellsB_set (l : List UInt8) (k : Nat) (x : UInt8) : (cellsB l).set k (.int .u8 (x.toNat : Int)) = cellsB (l.set k x) := by simp [cellsB, List.map_set]
/-- Two bytes stored at k and behind. -/
abbrev stored2 (w : World) (g k : Nat) (x y : Int) : World := (w.setCell ⟨g, k, none⟩ (.int .u8 x)).setCell ⟨g, k + 1, none⟩ (.int .u8 y)
theorem Mine.lay2 {w : World} {base : Nat} {g n c : Nat} {l : List UInt8} (h : Mine w base 5 (.slice (some ⟨g, 0, none⟩) n c) (cellsB l)) (k s : Nat) (hs : s ≤ 65535) {x y : Int} (hx : x = ((s / 256 : Nat) : Int)) (hy : y = ((s % 256 : Nat) : Int)) : Mine (stored2 w g k x y) base 5 (.slice (some ⟨g, 0, none⟩) n c) (cellsB (lay2 l k s)) := by
  have h1 := (h.stored k (.int .u8 x)).stored (k + 1) (.int .u8 y)
  have e1 : x = ((UInt8.ofNat (s / 256)).toNat : Int) := by rw [hx]; simp; omega
  have e2 : y = ((UInt8.ofNat (s % 256)).toNat : Int) := by rw [hy]; simp
  rw [e1, e2, cellsB_set, cellsB_set] at h1
  rw [e1, e2]
  exact h1
theorem Mine.slot {w : World} {base : Nat} {g n c : Nat} {l : List UInt8} (h : Mine w base 5 (.slice (some ⟨g, 0, none⟩) n c) (cellsB l)) (k : Nat) (hk : k < l.length) : (∃ u, w.cell? ⟨g, k, none⟩ = some (.int .u8 u)) ∧ w.frozen? ⟨g, k, none⟩ = false :=
  ⟨⟨_, h.cellAt (cellsB_at l k hk)⟩, h.free k⟩
theorem stored2_below {w : World} {B g k : Nat} {x y : Int} (h : B ≤ g) : Below B w (stored2 w g k x y) := ((Below.refl _ _).setCell (p := ⟨g, k, none⟩) h _).setCell (p := ⟨g, k + 1, none⟩) h _
theorem Mine.addr {w : World} {base : Nat} {v : Value} {l : List UInt8} (h : Mine w base 5 v (cellsB l)) (hl : 0 < l.length) : ∃ g c, v = .slice (some ⟨g, 0, none⟩) l.length c ∧ l.length ≤ c ∧ c ≤ maxLen := by
  rcases h.2 with ⟨rfl, hn⟩ | ⟨g, cap, cur, rfl, _, _, h1, h2, _⟩
  · rw [cellsB_length] at hn; omega
  · rw [cellsB_length] at h1 ⊢; exact ⟨g, cap, rfl, h1, h2⟩
set_option maxRecDepth 100000 in
set_option maxHeartbeats 1000000 in
theorem inetOwn_walk (v : Value) (l : List UInt8) (sn : Int) (w : World) (h : Rd w w.heap.size v (cellsB l)) (hsn : (Lit.int .u8 sn).wf = true) :
    Calls Try.prog 5 #[v, .int .u8 sn] w fun e w' => e = .returned (.bool true) ∧ Below w.heap.size w w' := by
  obtain ⟨a, rfl, ha⟩ : ∃ s : Nat, sn = (s : Int) ∧ s ≤ 255 := by
    have : 0 ≤ sn ∧ sn ≤ 255 := by simpa [Lit.wf, IntKind.min, IntKind.max, IntKind.bits, IntKind.signed] using hsn
    exact ⟨sn.toNat, by omega, by omega⟩
  clear hsn
  obtain ⟨A, c, rfl, _, _, h⟩ := h.bytes
  have hfew := few_any _ l 100 w _ h (Nat.le_refl _) (by omega)
  obtain ⟨m, hm⟩ : ∃ m, m = l.take 100 := ⟨_, rfl⟩
  have hml : m.length ≤ 100 := by rw [hm, List.length_take]; omega
  rw [← hm] at hfew
  have Hfew := Lib.hid hfew
  clear hfew h hm
  have Ha := Lib.hid ha
  clear ha
  go_enter Try.func5, Try.ntmps5
  go_wp2_with fail
  refine Hfew.out.mono ?_
  rintro e w1 ⟨v1, rfl, hown, hbel1⟩
  rcases Nat.lt_or_ge m.length 2 with hlt | hge
  · obtain ⟨A1, c1, rfl, _, _, hr1⟩ := hown.rd.bytes
    have HB1 := Lib.hid hbel1
    have k1 : (m.length : Int) < 2 := by omega
    clear hown hr1 hbel1 Hfew
    go_wp2_with fail
    refine (lives11_any _).mono ?_
    rintro e w2 ⟨rfl, hb2⟩
    have HB2 := Lib.hid hb2
    clear hb2
    go_wp2_with fail
    go_ret
    exact ⟨rfl, up HB1.out HB2.out⟩
  · obtain ⟨g, c1, rfl, hc1, hc2⟩ := hown.addr (by omega)
    obtain ⟨n, hn⟩ : ∃ n, n = m.length := ⟨_, rfl⟩
    have Hn := Lib.hid hn
    rw [← hn] at hown hml hge hc1 ⊢
    obtain ⟨hf, hhf⟩ : ∃ x, x = n / 2 := ⟨_, rfl⟩
    obtain ⟨p, hp⟩ : ∃ x, x = a % hf := ⟨_, rfl⟩
    obtain ⟨k, hk⟩ : ∃ x, x = p * 2 := ⟨_, rfl⟩
    have hpl : p < hf := by rw [hp]; exact Nat.mod_lt _ (by omega)
    have hkn : k + 1 < n := by omega
    have a1 : IntKind.i64.wrap (a : Int) = (a : Int) := by have := Ha.out; exact IntWalk.i64_in _ (by omega)
    have a2 : (n : Int).tdiv 2 = (hf : Int) := by rw [Int.tdiv_eq_ediv_of_nonneg (by omega)]; omega
    have a3' : wrap64 (hf : Int) = (hf : Int) := IntWalk.wrap64_in _ (by omega)
    have A3 := Lib.hid a3'
    clear a3'
    have a4 : ¬ hf = 0 := by omega
    have a5 : (a : Int).tmod (hf : Int) = (p : Int) := by rw [Int.tmod_eq_emod_of_nonneg (by omega), hp]; rfl
    have a6 : IntKind.i64.wrap ((p : Int) * 2) = (k : Int) := by rw [IntWalk.i64_in _ (by omega)]; omega
    have b0 : (0 : Int) ≤ (k : Int) := by omega
    have b1 : (k : Int) < (n : Int) := by omega
    have b2 : (k : Int).toNat = k := by omega
    have b3 : (0 : Int) ≤ (k : Int) + 1 := by omega
    have b4 : (k : Int) + 1 < (n : Int) := by omega
    have b5 : ((k : Int) + 1).toNat = k + 1 := by omega
    have b6 : IntKind.i64.wrap ((k : Int) + 1) = (k : Int) + 1 := IntWalk.i64_in _ (by omega)
    obtain ⟨⟨u1, c1'⟩, f1⟩ := hown.slot k (by rw [← hn]; omega)
    obtain ⟨⟨u2, c2'⟩, f2⟩ := hown.slot (k + 1) (by rw [← hn]; omega)
    have hlo := hown.lt
    have ho2 := hown.lay2 k 0 (by omega) (x := 0) (y := 0) rfl rfl
    obtain ⟨W2, hW2⟩ : ∃ W, W = stored2 w1 g k 0 0 := ⟨_, rfl⟩
    have hs2 : W2.heap.size = w1.heap.size := by rw [hW2]; simp
    have hb2 : Below w.heap.size w1 W2 := by rw [hW2]; exact stored2_below hlo.1
    rw [← hW2] at ho2
    have hr2 := ho2.rd
    have t1 := inSum_one hr2 (by rw [lay2_length, ← hn]; omega)
    rw [hs2] at t1
    have hsl := sumOf_le (lay2 m k 0)
    obtain ⟨s, hs⟩ : ∃ s, s = sumOf (lay2 m k 0) := ⟨_, rfl⟩
    rw [← hs] at t1 hsl
    have T1 := Lib.hid t1
    have HO2 := Lib.hid ho2
    have HB := Lib.hid (And.intro hbel1 (And.intro hb2 hlo))
    have HN := Lib.hid (And.intro hml (And.intro hkn (And.intro hk (And.intro hs hsl))))
    have HW2 := Lib.hid hW2
    rw [hW2] at T1
    have a3 := A3.out
    clear A3
    clear hown ho2 hb2 hlo hr2 t1 hs hsl hml hkn hk hp hpl hhf hge hn hbel1 hW2 hs2 Hfew Ha hc1
    go_wp2_with fail
    refine T1.out.mono ?_
    rintro e w3 ⟨rfl, hw3⟩
    rw [← HW2.out] at hw3
    have hb3 : Below W2.heap.size W2 w3 := by rw [← hw3]; exact up_alloc (Below.refl _ _) _
    have ho3 := HO2.out.kept hb3
    have hlo := HB.out.2.2
    obtain ⟨hml, hkn, hk, hs, hsl⟩ := HN.out
    obtain ⟨⟨u3, d1⟩, f3⟩ := ho3.slot k (by rw [lay2_length, ← Hn.out]; omega)
    obtain ⟨⟨u4, d2⟩, f4⟩ := ho3.slot (k + 1) (by rw [lay2_length, ← Hn.out]; omega)
    obtain ⟨q, hq⟩ : ∃ q, q = s / 256 := ⟨_, rfl⟩
    obtain ⟨r, hr⟩ : ∃ r, r = s % 256 := ⟨_, rfl⟩
    have e1 : (s : Int) / 256 = (q : Int) := by omega
    have e2 : IntKind.u8.wrap (q : Int) = (q : Int) := by rw [IntKind.wrap_u8']; omega
    have e3 : IntKind.u8.wrap (s : Int) = (r : Int) := by rw [IntKind.wrap_u8']; omega
    have ho4 := ho3.lay2 k s hsl (x := (q : Int)) (y := (r : Int)) (by rw [hq]) (by rw [hr])
    obtain ⟨W4, hW4⟩ : ∃ W, W = stored2 w3 g k (q : Int) (r : Int) := ⟨_, rfl⟩
    have hs4 : W4.heap.size = w3.heap.size := by rw [hW4]; simp
    have hb4 : Below w.heap.size w3 W4 := by rw [hW4]; exact stored2_below hlo.1
    rw [← hW4] at ho4
    have t2 := inGood_one ho4.rd (by rw [lay2_length, lay2_length, ← Hn.out]; omega)
    have hgood : sumOf (lay2 (lay2 m k 0) k s) = 0 := by
      rw [lay2_again, hs]
      exact sum_own m k (by omega) (by rw [← Hn.out]; omega)
    rw [hgood, hs4] at t2
    have T2 := Lib.hid t2
    have HB4 := Lib.hid (And.intro hb3 hb4)
    have HW4 := Lib.hid hW4
    rw [hW4] at T2
    clear hw3 hb3 ho3 hlo hml hkn hk hs hsl hq hr ho4 hs4 hb4 t2 hgood hW4 T1
    go_wp2_with fail
    refine T2.out.mono ?_
    rintro e w5 ⟨rfl, hw5⟩
    rw [← HW4.out] at hw5
    have hb5 : Below W4.heap.size W4 w5 := by rw [← hw5]; exact up_alloc (Below.refl _ _) _
    have HB5 := Lib.hid hb5
    clear hw5 hb5 T2
    go_wp2_with fail
    refine (lives11_any _).mono ?_
    rintro e w6 ⟨rfl, hb6⟩
    have HB6 := Lib.hid hb6
    clear hb6
    go_wp2_with fail
    go_ret
    have q1 : Below w.heap.size w W2 := HB.out.1.trans HB.out.2.1
    have q2 : Below w.heap.size w w3 := up q1 HB4.out.1
    have q3 : Below w.heap.size w W4 := q2.trans HB4.out.2
    exact ⟨rfl, up (up q3 HB5.out) HB6.out⟩
end Go.Proofs.Ytfafcihpjcgmhaa
