/-
  The walk of InetKept.
-/
import Derived.Test.YtfafcihpjcgmhaaInetOwnWalk
import Derived.Lib.BufferWrite
namespace Go.Proofs.Ytfafcihpjcgmhaa
open Go.RowKit
theorem Mine.off {w : World} {base : Nat} {e : TypeId} {v : Value} {xs : List Value} (h : Mine w base e v xs) {b i : Nat} {u : Value} (hb : v.ownBlock ≠ some b) : Mine (w.setCell ⟨b, i, none⟩ u) base e v xs :=
  h.grown (Lib.grownBy_setCell w b i u) (.inr hb)
theorem Mine.off2 {w : World} {base : Nat} {e : TypeId} {v : Value} {xs : List Value} (h : Mine w base e v xs) {b i : Nat} {x y : Int} (hb : v.ownBlock ≠ some b) : Mine (stored2 w b i x y) base e v xs := (h.off hb).off hb
/-- Whether the first of these bytes are all 0. -/
def idleN (l : List UInt8) (k : Nat) : Bool := (l.take k).all (· == 0)
theorem idleN_succ (l : List UInt8) (k : Nat) (x : UInt8) (hx : l[k]? = some x) : idleN l (k + 1) = (idleN l k && (x == 0)) := by
  unfold idleN
  rw [List.take_add_one, hx]
  simp
theorem idleN_no (l : List UInt8) (h : idleN l l.length = false) : ∃ y ∈ l, y ≠ 0 := by
  unfold idleN at h
  rw [List.take_length] at h
  obtain ⟨x, hx, h2⟩ := List.all_eq_false.mp h
  exact ⟨x, hx, by simpa using h2⟩
theorem int_zero (x : UInt8) : ((x.toNat : Int) == 0) = (x == 0) := by
  by_cases h : x = 0
  · subst h; rfl
  · have h2 : ¬ x.toNat = 0 := fun e => h (UInt8.toNat_inj.mp (by simpa using e))
    have : ((x.toNat : Int) == 0) = false := by simp; exact h2
    rw [this]
    symm
    simpa using h
set_option maxRecDepth 100000 in
set_option maxHeartbeats 2000000 in
theorem inetKept_core (v : Value) (l : List UInt8) (v2 : Value) (l2 : List UInt8) (d0 d1 : UInt8) (w : World) (h : Rd w w.heap.size v (cellsB l)) (h2 : Rd w w.heap.size v2 (cellsB l2)) :
    Calls Try.prog 6 #[v, v2, .agg #[.int .u8 (d0.toNat : Int), .int .u8 (d1.toNat : Int)]] w fun e w' => e = .returned (.bool true) ∧ Below w.heap.size w w' := by
  obtain ⟨i, hi, hz0, hz1, hz2⟩ := info_parts info_u8
  obtain ⟨A, c, rfl, _, _, h⟩ := h.bytes
  obtain ⟨Ab, cb, rfl, _, _, h2⟩ := h2.bytes
  obtain ⟨W, hW⟩ : ∃ W, W = w.alloc (.cells #[.int .u8 (d0.toNat : Int), .int .u8 (d1.toNat : Int)] 34) := ⟨_, rfl⟩
  have hbel0 : Below w.heap.size w W := hW ▸ (Below.refl _ _).alloc (Nat.le_refl _) _
  have hat0 : W.cell? ⟨w.heap.size, 0, none⟩ = some (.int .u8 (d0.toNat : Int)) := by rw [hW]; simp [World.cell?_alloc_new]
  have hat1 : W.cell? ⟨w.heap.size, 1, none⟩ = some (.int .u8 (d1.toNat : Int)) := by rw [hW]; simp [World.cell?_alloc_new]
  have hws : W.heap.size = w.heap.size + 1 := by rw [hW]; simp
  have hfew := few_any _ l 100 W _ (h.below hbel0) hbel0.size (by omega)
  obtain ⟨m, hm⟩ : ∃ m, m = l.take 100 := ⟨_, rfl⟩
  have hml : m.length ≤ 100 := by rw [hm, List.length_take]; omega
  rw [← hm] at hfew
  have Hfew := Lib.hid hfew
  have H0 := Lib.hid (And.intro hbel0 (And.intro hat0 (And.intro hat1 hws)))
  have HBz := Lib.hid (show w.heap.size ≤ W.heap.size from hbel0.size)
  have HY := Lib.hid h2
  have HW := Lib.hid hW
  clear hfew h hm h2 hbel0 hat0 hat1 hws hW
  go_enter Try.func6, Try.ntmps6
  go_wp2_with fail
  rw [← HW.out]
  refine Hfew.out.mono ?_
  rintro e w1 ⟨v1, rfl, hown, hbel1⟩
  obtain ⟨A1, c1, rfl, hc1, hc2, _⟩ := hown.rd.bytes
  have hb1 : Below w.heap.size w w1 := up H0.out.1 hbel1
  have hfew2 := few_any _ l2 20 w1 _ (HY.out.below hb1) hb1.size (by omega)
  obtain ⟨m2, hm2e⟩ : ∃ m, m = l2.take 20 := ⟨_, rfl⟩
  have hm2 : m2.length ≤ 20 := by rw [hm2e, List.length_take]; omega
  rw [← hm2e] at hfew2
  clear hm2e
  have Hfew2 := Lib.hid hfew2
  have HO1 := Lib.hid (And.intro hown (And.intro hb1 hbel1))
  clear hfew2 Hfew hown hbel1 hb1
  obtain ⟨nb, hnb⟩ : ∃ n, n = m.length := ⟨_, rfl⟩
  rw [← hnb] at hml HO1 hc1 ⊢
  have Hnb := Lib.hid hnb
  clear hnb
  go_wp2_with fail
  refine Hfew2.out.mono ?_
  rintro e w2 ⟨v2', rfl, hyown, hbel2⟩
  obtain ⟨A2, c2, rfl, hc3, _, hr2⟩ := hyown.rd.bytes
  obtain ⟨ny, hny⟩ : ∃ n, n = m2.length := ⟨_, rfl⟩
  rw [← hny] at hm2 hr2 hc3 hyown ⊢
  have HYM := Lib.hid hyown
  clear hyown
  obtain ⟨hf, hhf⟩ : ∃ x, x = ny / 2 := ⟨_, rfl⟩
  obtain ⟨n, hn⟩ : ∃ x, x = hf * 2 := ⟨_, rfl⟩
  have a2 : (ny : Int).tdiv 2 = (hf : Int) := by rw [Int.tdiv_eq_ediv_of_nonneg (by omega)]; omega
  have a3' : wrap64 (hf : Int) = (hf : Int) := IntWalk.wrap64_in _ (by omega)
  have A3 := Lib.hid a3'
  clear a3'
  have a6 : IntKind.i64.wrap ((hf : Int) * 2) = (n : Int) := by rw [IntWalk.i64_in _ (by omega)]; omega
  have b0 : (0 : Int) ≤ (n : Int) := by omega
  have b1 : (n : Int) ≤ (c2 : Int) := by omega
  have b2 : (n : Int).toNat = n := by omega
  have b3 : IntKind.i64.wrap ((n : Int) + 2) = (n : Int) + 2 := IntWalk.i64_in _ (by omega)
  have hown2 := HO1.out.1.kept (hbel2)
  have hb2 : Below w.heap.size w w2 := up HO1.out.2.1 hbel2
  have hyo := hr2.upto (hi := n) (by omega)
  rw [cellsB_take] at hyo
  obtain ⟨yo, hyo2⟩ : ∃ y, y = m2.take n := ⟨_, rfl⟩
  rw [← hyo2] at hyo
  have hyol : yo.length = n := by rw [hyo2, List.length_take]; omega
  have hcell := fun (w' : World) (hw' : Below w1.heap.size w1 w') => (show w'.cell? ⟨w.heap.size, 0, none⟩ = some (.int .u8 (d0.toNat : Int)) ∧ w'.cell? ⟨w.heap.size, 1, none⟩ = some (.int .u8 (d1.toNat : Int)) from by
    have hb := HO1.out.2.2
    have h3 := hw'.mono hb.size
    have hl := H0.out.2.2.2
    exact ⟨((h3.cell (p := ⟨w.heap.size, 0, none⟩) (by show w.heap.size < _; omega)).trans (hb.cell (p := ⟨w.heap.size, 0, none⟩) (by show w.heap.size < _; omega))).trans H0.out.2.1, ((h3.cell (p := ⟨w.heap.size, 1, none⟩) (by show w.heap.size < _; omega)).trans (hb.cell (p := ⟨w.heap.size, 1, none⟩) (by show w.heap.size < _; omega))).trans H0.out.2.2.1⟩)
  have HCell := Lib.hid hcell
  have HO2 := Lib.hid (And.intro hown2 (And.intro hb2 hbel2))
  have HYo := Lib.hid (And.intro hyo hyol)
  have HYT := Lib.hid hyo2
  have HN := Lib.hid (And.intro hm2 (And.intro hhf (And.intro hn hny)))
  clear hown2 hb2 hbel2 hr2 hyo hyo2 hyol hcell Hfew2 hhf hny H0 HY HW
  by_cases hlt : nb < n + 2
  · have k1 : (nb : Int) < (n : Int) + 2 := by omega
    have a3 := A3.out
    clear hlt A3 hn hm2 hml hc1 hc2 hc3
    go_wp2_with fail
    refine (lives11_any _).mono ?_
    rintro e w3 ⟨rfl, hb3⟩
    have HB3 := Lib.hid hb3
    clear hb3
    go_wp2_with fail
    go_ret
    exact ⟨rfl, up HO2.out.2.1 HB3.out⟩
  · have k1 : ¬ (nb : Int) < (n : Int) + 2 := by omega
    obtain ⟨g, c1', e9, hcc1, hcc2⟩ := HO2.out.1.addr (by rw [← Hnb.out]; omega)
    injection e9 with e1 e2 e3
    subst e1 e3
    clear e2
    rw [← Hnb.out] at hcc1
    obtain ⟨q1, hq1⟩ : ∃ x, x = (nb - n) / 2 := ⟨_, rfl⟩
    obtain ⟨p, hp⟩ : ∃ x, x = d0.toNat % q1 := ⟨_, rfl⟩
    obtain ⟨k, hk⟩ : ∃ x, x = p * 2 := ⟨_, rfl⟩
    obtain ⟨kn, hkn⟩ : ∃ x, x = k + n := ⟨_, rfl⟩
    have hd0 := d0.toNat_lt
    have hq0 : 0 < q1 := by omega
    have hpl : p < q1 := by rw [hp]; exact Nat.mod_lt _ hq0
    have hknb : kn + 2 ≤ nb := by omega
    have e0 : IntKind.i64.wrap (d0.toNat : Int) = (d0.toNat : Int) := IntWalk.i64_in _ (by omega)
    have e1 : IntKind.i64.wrap ((nb : Int) - (n : Int)) = ((nb - n : Nat) : Int) := by rw [IntWalk.i64_in _ (by omega)]; omega
    have e2 : ((nb - n : Nat) : Int).tdiv 2 = (q1 : Int) := by rw [Int.tdiv_eq_ediv_of_nonneg (by omega)]; omega
    have e4 : ¬ q1 = 0 := by omega
    have e5 : (d0.toNat : Int).tmod (q1 : Int) = (p : Int) := by rw [Int.tmod_eq_emod_of_nonneg (by omega), hp]; rfl
    have e6 : IntKind.i64.wrap ((p : Int) * 2) = (k : Int) := by rw [IntWalk.i64_in _ (by omega)]; omega
    have e7 : IntKind.i64.wrap ((k : Int) + (n : Int)) = (kn : Int) := by rw [IntWalk.i64_in _ (by omega)]; omega
    have b4 : (0 : Int) ≤ (k : Int) := by omega
    have b5 : (k : Int) ≤ (c1 : Int) := by omega
    have b6 : (k : Int).toNat = k := by omega
    have b7 : (0 : Int) ≤ (kn : Int) := by omega
    have b8 : (kn : Int) ≤ (nb : Int) := by omega
    have b9 : (kn : Int).toNat = kn := by omega
    have b10 : (k : Int) ≤ (kn : Int) := by omega
    have b11 : (kn : Int) ≤ (c1 : Int) := by omega
    have b12 : (nb : Int) ≤ (c1 : Int) := by omega
    have i1 : (if c1 = kn then some (⟨g, 0, none⟩ : Addr) else some ⟨g, kn, none⟩) = some ⟨g, kn, none⟩ := by rw [if_neg (by omega)]
    have i2 : (if c1 = k then some (⟨g, 0, none⟩ : Addr) else some ⟨g, k, none⟩) = some ⟨g, k, none⟩ := by rw [if_neg (by omega)]
    have x0 := (HCell.out w2 HO2.out.2.2).1
    have e3' : wrap64 (q1 : Int) = (q1 : Int) := IntWalk.wrap64_in _ (by omega)
    have E3 := Lib.hid e3'
    clear e3'
    have HK := Lib.hid (And.intro hq1 (And.intro hp (And.intro hk (And.intro hkn (And.intro hpl (And.intro hknb (And.intro hn hml)))))))
    -- the three pieces of c
    have hrb := HO2.out.1.rd
    have hcut1 := hrb.upto (hi := k) (by omega)
    have hcut2 := hrb.cut (lo := kn) (hi := nb) (by omega) (Nat.le_refl _)
    rw [cellsB_take] at hcut1
    rw [cellsB_take, cellsB_drop, List.take_of_length_le (by rw [Hnb.out]; exact Nat.le_refl _), if_neg (by omega), show (some (⟨g, 0, none⟩ : Addr)).map (·.add kn) = some ⟨g, kn, none⟩ by simp [Addr.add_lit]] at hcut2
    have HC := Lib.hid (And.intro hcut1 hcut2)
    have e3 := E3.out
    have a3 := A3.out
    clear A3
    have hbase := HO2.out.1.lt
    have HBase := Lib.hid hbase
    have Hm2 := Lib.hid hm2
    clear hq1 hp hk hkn hd0 hq0 hpl hknb hrb hcut1 hcut2 E3 hlt hml hn hm2 hcc1 hcc2 hc1 hc2 hc3 hbase
    go_wp2_with fail
    have hbd : Below w2.heap.size w2 w2.drew := (Below.refl _ _).drew
    have r1 := Lib.hid ((HC.out.1.below hbd).alloc (Nat.le_refl _) (.cells #[] 5))
    have HWd := Lib.hid hbd
    clear hbd a3 e3
    go_region_held3 (fun _ => True) (trivial) (first
      | (refine step_append_rd rfl (.tmp 42) (.tmp 45) 22 (by rfl) w2.heap.size 5 i _ 1 Try.underlying22 hi hz0 hz1 hz2 rfl _ [] (by rfl) (Mine.empty w2.drew _ 5 (Nat.le_refl _)) w2.heap.size _ _ (by rfl) r1.out (cellsB_one _) (by have := HK.out; have := Hnb.out; rw [cellsB_length, List.length_take]; simp; omega) (by have := HK.out; have := Hnb.out; unfold maxLen; rw [cellsB_length, List.length_take]; simp; omega) (by simp) ?_; intro v5 w5 hown5 hbel5 _ _; have hb5 : Below w2.heap.size w2 w5 := (((Below.refl w2.heap.size w2).alloc (Nat.le_refl _) (.cells #[] 5)).drew).trans hbel5; have HB5 := Lib.hid hb5; have HO5 := Lib.hid hown5; clear hbel5 hb5 hown5)
      | (refine step_append_rd rfl (.tmp 46) (.tmp 47) 22 (by rfl) w2.heap.size 5 i _ 1 Try.underlying22 hi hz0 hz1 hz2 rfl _ _ (by rfl) HO5.out w2.heap.size _ _ (by rfl) (HYo.out.1.below HB5.out) (cellsB_one _) (by have := HK.out; have := Hnb.out; have := HYo.out.2; have := Hm2.out; have := HN.out; simp only [List.nil_append, cellsB_length, List.length_take]; omega) (by have := HK.out; have := Hnb.out; have := HYo.out.2; have := Hm2.out; have := HN.out; unfold maxLen; simp only [List.nil_append, cellsB_length, List.length_take]; omega) HB5.out.size ?_; intro v6 w6 hown6 hbel6 _ _; have hb6 : Below w2.heap.size w2 w6 := HB5.out.trans hbel6; have HB6 := Lib.hid hb6; have HO6 := Lib.hid hown6; clear hbel6 hb6 hown6)
      | (refine step_append_rd rfl (.tmp 48) (.tmp 53) 22 (by rfl) w2.heap.size 5 i _ 1 Try.underlying22 hi hz0 hz1 hz2 rfl _ _ (by rfl) HO6.out w2.heap.size _ _ (by rfl) (HC.out.2.below HB6.out) (cellsB_one _) (by have := HK.out; have := Hnb.out; have := HYo.out.2; have := Hm2.out; have := HN.out; simp only [List.nil_append, List.length_append, cellsB_length, List.length_take, List.length_drop]; omega) (by have := HK.out; have := Hnb.out; have := HYo.out.2; have := Hm2.out; have := HN.out; unfold maxLen; simp only [List.nil_append, List.length_append, cellsB_length, List.length_take, List.length_drop]; omega) HB6.out.size ?_; intro v7 w7 hown7 hbel7 _ _; have hb7 : Below w2.heap.size w2 w7 := HB6.out.trans hbel7; have HB7 := Lib.hid hb7; have HO7 := Lib.hid hown7; clear hbel7 hb7 hown7))
    obtain ⟨z1, hz1⟩ : ∃ z, z = wrap64 (hf : Int) := ⟨_, rfl⟩
    obtain ⟨z2, hz2⟩ : ∃ z, z = wrap64 (q1 : Int) := ⟨_, rfl⟩
    rw [← hz1, ← hz2]
    clear hz1 hz2
    have I2 := Lib.hid (And.intro i2 (And.intro b4 (And.intro b5 (And.intro b6 (And.intro b7 (And.intro b9 (And.intro b10 (And.intro b11 b12))))))))
    clear a2 a6 b0 b1 b2 b3 e0 e1 e2 e4 e5 e6 i1 i2 x0 r1 b4 b5 b6 b7 b8 b9 b10 b11 b12 k1
    have hlc := HBase.out
    obtain ⟨hq1, hp, hk, hkn, hpl, hknb, hnn, hml⟩ := HK.out
    obtain ⟨cs, hcs⟩ : ∃ cs, cs = m.take k ++ yo ++ m.drop kn := ⟨_, rfl⟩
    have hoc := HO7.out
    rw [List.nil_append, ← cellsB_append, ← cellsB_append, ← hcs] at hoc
    have hcl : cs.length = nb := by
      rw [hcs, List.length_append, List.length_append, List.length_take, List.length_drop, HYo.out.2, ← Hnb.out]
      omega
    obtain ⟨gc, cc, rfl, hcc1, hcc2⟩ := hoc.addr (by omega)
    rw [hcl] at hoc hcc1 ⊢
    have hlc2 := hoc.lt
    have hob := HO2.out.1.kept HB7.out
    have hgne : g ≠ gc := by omega
    have x1 := (HCell.out w7 (HO2.out.2.2.trans (HB7.out.mono HO2.out.2.2.size))).2
    obtain ⟨t1, ht1⟩ : ∃ x, x = nb / 2 := ⟨_, rfl⟩
    obtain ⟨p2, hp2⟩ : ∃ x, x = d1.toNat % t1 := ⟨_, rfl⟩
    obtain ⟨s, hs⟩ : ∃ x, x = p2 * 2 := ⟨_, rfl⟩
    have hd1 := d1.toNat_lt
    have hpl2 : p2 < t1 := by rw [hp2]; exact Nat.mod_lt _ (by omega)
    have hsn : s + 1 < nb := by omega
    have f0 : IntKind.i64.wrap (d1.toNat : Int) = (d1.toNat : Int) := IntWalk.i64_in _ (by omega)
    have f2 : (nb : Int).tdiv 2 = (t1 : Int) := by rw [Int.tdiv_eq_ediv_of_nonneg (by omega)]; omega
    have f4 : ¬ t1 = 0 := by omega
    have f5 : (d1.toNat : Int).tmod (t1 : Int) = (p2 : Int) := by rw [Int.tmod_eq_emod_of_nonneg (by omega), hp2]; rfl
    have f6 : IntKind.i64.wrap ((p2 : Int) * 2) = (s : Int) := by rw [IntWalk.i64_in _ (by omega)]; omega
    have s0 : (0 : Int) ≤ (s : Int) := by omega
    have s1 : (s : Int) < (nb : Int) := by omega
    have s2 : (s : Int).toNat = s := by omega
    have s3 : (0 : Int) ≤ (s : Int) + 1 := by omega
    have s4 : (s : Int) + 1 < (nb : Int) := by omega
    have s5 : ((s : Int) + 1).toNat = s + 1 := by omega
    have s6 : IntKind.i64.wrap ((s : Int) + 1) = (s : Int) + 1 := IntWalk.i64_in _ (by omega)
    have HOB := Lib.hid hob
    have HOC := Lib.hid hoc
    have HS := Lib.hid (And.intro hcs (And.intro hcl (And.intro hgne (And.intro hs hsn))))
    have HLC2 := Lib.hid (And.intro hlc2 hlc)
    have hknw := hkn
    have hbw7 : Below w.heap.size w w7 := up HO2.out.2.1 HB7.out
    have HB := Lib.hid hbw7
    by_cases hin : k ≤ s ∧ s < kn
    · have n1 : (k : Int) ≤ (s : Int) := by omega
      have n2 : (s : Int) < (kn : Int) := by omega
      have f3 : wrap64 (t1 : Int) = (t1 : Int) := IntWalk.wrap64_in _ (by omega)
      clear s0 s1 s2 s3 s4 s5 s6 hin hq1 hp hk hkn hpl hknb hnn hml hcs hoc hcl hcc1 hcc2 hlc2 hob hgne ht1 hp2 hs hd1 hpl2 hsn hlc hknw hbw7
      go_wp2_with fail
      refine (lives11_any _).mono ?_
      rintro e w8 ⟨rfl, hb8⟩
      have HB8 := Lib.hid hb8
      clear hb8
      go_wp2_with fail
      go_ret
      exact ⟨rfl, up HB.out HB8.out⟩
    · have hcase : ((s : Int) < (k : Int)) ∨ ((k : Int) ≤ (s : Int) ∧ (kn : Int) ≤ (s : Int)) := by omega
      obtain ⟨⟨u1, c1'⟩, g1⟩ := hob.slot s (by rw [← Hnb.out]; omega)
      obtain ⟨⟨u2, c2'⟩, g2⟩ := hob.slot (s + 1) (by rw [← Hnb.out]; omega)
      obtain ⟨⟨u3, c3'⟩, g3⟩ := hoc.slot s (by omega)
      obtain ⟨⟨u4, c4'⟩, g4⟩ := hoc.slot (s + 1) (by omega)
      have hob8 := (hob.lay2 s 0 (by omega) (x := 0) (y := 0) rfl rfl).off2 (b := gc) (i := s) (x := 0) (y := 0) (by simp [Value.ownBlock]; omega)
      have hoc8 := (hoc.off2 (b := g) (i := s) (x := 0) (y := 0) (by simp [Value.ownBlock]; omega)).lay2 s 0 (by omega) (x := 0) (y := 0) rfl rfl
      obtain ⟨W8, hW8⟩ : ∃ W, W = (((w7.setCell ⟨g, s, none⟩ (.int .u8 0)).setCell ⟨g, s + 1, none⟩ (.int .u8 0)).setCell ⟨gc, s, none⟩ (.int .u8 0)).setCell ⟨gc, s + 1, none⟩ (.int .u8 0) := ⟨_, rfl⟩
      have hob8 : Mine W8 W.heap.size 5 (.slice (some ⟨g, 0, none⟩) nb c1) (cellsB (lay2 m s 0)) := by rw [hW8]; exact hob8
      have hoc8 : Mine W8 w2.heap.size 5 (.slice (some ⟨gc, 0, none⟩) nb cc) (cellsB (lay2 cs s 0)) := by rw [hW8]; exact hoc8
      have hb8 : Below W.heap.size w7 W8 := by rw [hW8]; exact (stored2_below (x := 0) (y := 0) hlc.1).trans (stored2_below (w := stored2 w7 g s 0 0) (x := 0) (y := 0) (by have := hlc.2; omega))
      have hoy7 := HYM.out.kept HB7.out
      have hg1 : g < w1.heap.size := HO1.out.1.lt.2
      have hoy8 : Mine W8 w1.heap.size 5 (.slice A2 ny c2) (cellsB m2) := by
        rw [hW8]
        exact (hoy7.off2 (b := g) (i := s) (x := 0) (y := 0) (fun e => by have := (hoy7.block g e).1; omega)).off2 (b := gc) (i := s) (x := 0) (y := 0) (fun e => by have := (HYM.out.block gc e).2; omega)
      have HY8 := Lib.hid hoy8
      have HW8 := Lib.hid hW8
      have H8 := Lib.hid (And.intro hob8 (And.intro hoc8 hb8))
      obtain ⟨cz, hcz⟩ : ∃ cz, cz = lay2 cs s 0 := ⟨_, rfl⟩
      have hczl : cz.length = nb := by rw [hcz, lay2_length]; exact hcl
      have hce : ∀ j x, cz[j]? = some x → W8.cell? ⟨gc, j, none⟩ = some (.int .u8 (x.toNat : Int)) := fun j x hx => by
        rw [hcz] at hx
        refine hoc8.cellAt ?_
        rw [cellsB, List.getElem?_map, hx]
        rfl
      have HCE := Lib.hid hce
      have HCZ := Lib.hid (And.intro hcz hczl)
      have HIn := Lib.hid hin
      have F3 := Lib.hid (show wrap64 (t1 : Int) = (t1 : Int) from IntWalk.wrap64_in _ (by omega))
      clear hq1 hp hk hkn hpl hknb hnn hcs hoc hcl hcc1 hcc2 hlc2 hob hgne ht1 hp2 hs hd1 hpl2 hsn hlc hknw hbw7 hin hob8 hoc8 hb8 hW8 hcz hczl hce hoy7 hg1 hoy8
      have hgo : ∀ Z : Prop, ((s : Int) < (k : Int) → Z) → ((k : Int) ≤ (s : Int) → (kn : Int) ≤ (s : Int) → Z) → Z := fun Z z1 z2 => hcase.elim z1 fun h => z2 h.1 h.2
      clear hcase
      have ne1 : ¬ g = gc := HS.out.2.2.1
      have ne2 : ¬ gc = g := fun e => HS.out.2.2.1 e.symm
      refine hgo _ (fun n1 => ?_) (fun n1 n2 => ?_)
      all_goals
        clear hgo
        have f3 := F3.out
        go_wp2_with fail
        clear f3
        rw [← HW8.out]
        have Facts := Lib.hid (And.intro s0 (And.intro s1 (And.intro s2 (And.intro s3 (And.intro s4 (And.intro s5 s6))))))
        clear s0 s1 s2 s3 s4 s5 s6 f0 f2 f4 f5 f6 x1 c1' c2' c3' c4' g1 g2 g3 g4 n1
        go_loop [11, 12] (fun iv jv => ∃ j : Nat, j ≤ nb ∧ jv = .int .i64 (j : Int) ∧ iv = .bool (idleN cz j)) (fun _ jv => nb - (intOf jv).toNat)
        case atStart => exact ⟨0, by omega, rfl, rfl⟩
        case round =>
          obtain ⟨j, hj, rfl, rfl⟩ := hrel
          by_cases hjn : j < nb
          · obtain ⟨x, hx⟩ : ∃ x, cz[j]? = some x := ⟨_, List.getElem?_eq_getElem (by rw [HCZ.out.2]; exact hjn)⟩
            have hcx := HCE.out j x hx
            have hid := idleN_succ cz j x hx
            have hxz := int_zero x
            obtain ⟨b, hb⟩ : ∃ b, b = (x == 0) := ⟨_, rfl⟩
            rw [← hb] at hid hxz
            have j1 : (j : Int) < (nb : Int) := by omega
            have j2 : IntKind.i64.wrap ((j : Int) + 1) = (j : Int) + 1 := IntWalk.i64_in _ (by omega)
            have j3 : (0 : Int) ≤ (j : Int) := by omega
            have j4 : (j : Int).toNat = j := by omega
            obtain ⟨b0, hb0⟩ : ∃ b, b = idleN cz j := ⟨_, rfl⟩
            rw [← hb0] at hid ⊢
            have HId := Lib.hid hid
            clear hx hid hb hb0 hj
            cases b0
            · go_wp2_with fail
              go_round
              case rel => exact ⟨j + 1, by omega, by go_num, by rw [HId.out]; rfl⟩
              case measure => simp [intOf]; omega
            · go_wp2_with fail
              go_round
              case rel => exact ⟨j + 1, by omega, by go_num, by rw [HId.out]; simp⟩
              case measure => simp [intOf]; omega
          · have hjj : j = nb := by omega
            subst hjj
            have j1 : ¬ (j : Int) < (j : Int) := by omega
            clear hjn hj
            cases hib : idleN cz j with
            | true =>
              clear hib
              go_wp2_with fail
              refine (lives11_any _).mono ?_
              rintro e w9 ⟨rfl, hb9⟩
              have HB9 := Lib.hid hb9
              clear hb9
              go_wp2_with fail
              go_ret
              have q1 : Below w.heap.size w W8 := HB.out.trans (H8.out.2.2.mono HBz.out)
              exact ⟨rfl, up q1 HB9.out⟩
            | false =>
              have hnz := idleN_no cz (by rw [HCZ.out.2]; exact hib)
              have HNZ := Lib.hid hnz
              have t1 := inSum_one H8.out.1.rd (by rw [lay2_length, ← Hnb.out]; have := HK.out; omega)
              obtain ⟨bz, hbz⟩ : ∃ b, b = lay2 m s 0 := ⟨_, rfl⟩
              obtain ⟨xs, hxs⟩ : ∃ x, x = sumOf bz := ⟨_, rfl⟩
              have hxl := sumOf_le bz
              rw [← hbz, ← hxs] at t1
              rw [← hxs] at hxl
              have T1 := Lib.hid t1
              have HXS := Lib.hid (And.intro hbz (And.intro hxs hxl))
              clear hib hnz t1 hbz hxs hxl
              go_wp2_with fail
              refine T1.out.mono ?_
              rintro e w9 ⟨rfl, hw9⟩
              have hb9 : Below W8.heap.size W8 w9 := by rw [← hw9]; exact up_alloc (Below.refl _ _) _
              have hob9 := H8.out.1.kept hb9
              have hoc9 := H8.out.2.1.kept hb9
              rw [← HXS.out.1] at hob9
              have hcut := hob9.rd.cut (lo := k) (hi := kn) (by have := HK.out; omega) (by have := HK.out; omega)
              rw [cellsB_take, cellsB_drop, if_neg (by have := HK.out; have := I2.out.2.2.1; have := I2.out.2.2.2.2.2.2.2.2; omega), show (some (⟨g, 0, none⟩ : Addr)).map (·.add k) = some ⟨g, k, none⟩ by simp [Addr.add_lit]] at hcut
              obtain ⟨old, hold⟩ : ∃ o, o = (bz.take kn).drop k := ⟨_, rfl⟩
              rw [← hold] at hcut
              have hol : old.length = n := by
                rw [hold, List.length_drop, List.length_take, HXS.out.1, lay2_length, ← Hnb.out]
                have := HK.out
                omega
              have HCut := Lib.hid hcut
              have H9 := Lib.hid (And.intro hob9 (And.intro hoc9 hb9))
              have HOld := Lib.hid (And.intro hold hol)
              obtain ⟨i2, b4, b5, b6, b7, b9, b10, b11, b12⟩ := I2.out
              clear hw9 hb9 hob9 hoc9 hcut hold hol T1
              go_wp2_with (at_builtin; refine wpList_append_rd rfl (.tmp 108) _ 22 rfl w9.heap.size 5 i _ 1 Try.underlying22 hi hz0 hz1 hz2 rfl _ [] rfl (Mine.empty w9 _ 5 (Nat.le_refl _)) _ _ _ rfl (HCut.out.alloc (Nat.le_refl _) _) (cellsB_one _) (by rw [cellsB_length]; have := HOld.out.2; have := HK.out; simp; omega) (by unfold maxLen; rw [cellsB_length]; have := HOld.out.2; have := HK.out; simp; omega) (by simp) ?_; intro v10 w10 hown10 hbel10 _ _; have hb10 : Below w9.heap.size w9 w10 := ((Below.refl _ _).alloc (Nat.le_refl _) _).trans hbel10; rw [List.nil_append] at hown10; obtain ⟨A10, c10, rfl, _, _, hr10⟩ := hown10.rd.bytes; rw [HOld.out.2] at hr10 ⊢; have HB10 := Lib.hid hb10; have HR10 := Lib.hid hr10; clear hbel10 hown10 hr10 hb10)
              have hyr := ((HY8.out.kept H9.out.2.2).kept HB10.out).rd.upto (hi := n) (by have := HN.out; omega)
              rw [cellsB_take, ← HYT.out] at hyr
              have t2 := inChange_yes (s := xs) HXS.out.2.2 HOld.out.2 HYo.out.2 (by have := HK.out; omega) (by have := HK.out; omega) HR10.out hyr
              obtain ⟨ys, hys⟩ : ∃ y, y = chgOf xs old yo := ⟨_, rfl⟩
              have hyl := chgOf_le xs old yo
              rw [← hys] at t2 hyl
              have T2 := Lib.hid t2
              have HYS := Lib.hid (And.intro hys hyl)
              clear hyr t2 hys hyl i2 b4 b5 b6 b7 b9 b10 b11 b12
              refine T2.out.mono ?_
              rintro e w11 ⟨rfl, hb11⟩
              have hob11 := (H9.out.1.kept HB10.out).kept hb11
              have hoc11 := (H9.out.2.1.kept HB10.out).kept hb11
              obtain ⟨hq1', hp', hk', hkn', hpl', hknb', hnn', hml'⟩ := HK.out
              have hsn := HS.out.2.2.2.2
              have hcl := HS.out.2.1
              have hlc := HLC2.out
              obtain ⟨⟨u1, c1'⟩, g1⟩ := hob11.slot s (by rw [HXS.out.1, lay2_length, ← Hnb.out]; omega)
              obtain ⟨⟨u2, c2'⟩, g2⟩ := hob11.slot (s + 1) (by rw [HXS.out.1, lay2_length, ← Hnb.out]; omega)
              obtain ⟨⟨u3, c3'⟩, g3⟩ := hoc11.slot s (by rw [lay2_length]; omega)
              obtain ⟨⟨u4, c4'⟩, g4⟩ := hoc11.slot (s + 1) (by rw [lay2_length]; omega)
              have hxl := HXS.out.2.2
              have hyl := HYS.out.2
              obtain ⟨xq, hxq⟩ : ∃ q, q = xs / 256 := ⟨_, rfl⟩
              obtain ⟨xr, hxr⟩ : ∃ q, q = xs % 256 := ⟨_, rfl⟩
              obtain ⟨yq, hyq⟩ : ∃ q, q = ys / 256 := ⟨_, rfl⟩
              obtain ⟨yr, hyr⟩ : ∃ q, q = ys % 256 := ⟨_, rfl⟩
              have m1 : (xs : Int) / 256 = (xq : Int) := by omega
              have m2' : IntKind.u8.wrap (xq : Int) = (xq : Int) := by rw [IntKind.wrap_u8']; omega
              have m3 : IntKind.u8.wrap (xs : Int) = (xr : Int) := by rw [IntKind.wrap_u8']; omega
              have m4 : (ys : Int) / 256 = (yq : Int) := by omega
              have m5 : IntKind.u8.wrap (yq : Int) = (yq : Int) := by rw [IntKind.wrap_u8']; omega
              have m6 : IntKind.u8.wrap (ys : Int) = (yr : Int) := by rw [IntKind.wrap_u8']; omega
              have hob12 := (hob11.lay2 s xs hxl (x := (xq : Int)) (y := (xr : Int)) (by rw [hxq]) (by rw [hxr])).off2 (b := gc) (i := s) (x := (yq : Int)) (y := (yr : Int)) (by simp [Value.ownBlock]; omega)
              have hoc12 := (hoc11.off2 (b := g) (i := s) (x := (xq : Int)) (y := (xr : Int)) (by simp [Value.ownBlock]; omega)).lay2 s ys hyl (x := (yq : Int)) (y := (yr : Int)) (by rw [hyq]) (by rw [hyr])
              obtain ⟨W12, hW12⟩ : ∃ W, W = (((w11.setCell ⟨g, s, none⟩ (.int .u8 (xq : Int))).setCell ⟨g, s + 1, none⟩ (.int .u8 (xr : Int))).setCell ⟨gc, s, none⟩ (.int .u8 (yq : Int))).setCell ⟨gc, s + 1, none⟩ (.int .u8 (yr : Int)) := ⟨_, rfl⟩
              have hob12 : Mine W12 W.heap.size 5 (.slice (some ⟨g, 0, none⟩) j c1) (cellsB (lay2 bz s xs)) := by rw [hW12]; exact hob12
              have hoc12 : Mine W12 w2.heap.size 5 (.slice (some ⟨gc, 0, none⟩) j cc) (cellsB (lay2 (lay2 cs s 0) s ys)) := by rw [hW12]; exact hoc12
              have hb12 : Below W.heap.size w11 W12 := by rw [hW12]; exact (stored2_below (w := w11) (x := (xq : Int)) (y := (xr : Int)) hlc.2.1).trans (stored2_below (w := stored2 w11 g s (xq : Int) (xr : Int)) (x := (yq : Int)) (y := (yr : Int)) (by have := hlc; omega))
              have hs12 : W12.heap.size = w11.heap.size := by rw [hW12]; simp
              have hgood : sumOf (lay2 bz s xs) = 0 := by
                rw [HXS.out.2.1, HXS.out.1, lay2_again]
                exact sum_own m s (by have := HS.out.2.2.2.1; omega) (by rw [← Hnb.out]; omega)
              have hkept : sumOf (lay2 (lay2 cs s 0) s ys) = 0 := by
                have h := sum_kept m cs k s n xs yo (by omega) HYo.out.2 (by omega) (by rw [← Hnb.out]; omega) (by have := HS.out.2.2.2.1; omega) (by rw [← Hnb.out]; omega) (by rw [← hkn']; exact HS.out.1) (by rw [← hkn']; exact HIn.out) (by rw [HXS.out.2.1, HXS.out.1]) (by have := HNZ.out; rw [HCZ.out.1] at this; exact this)
                rw [lay2_again, HYS.out.1, HOld.out.1, HXS.out.1, List.drop_take, hkn', Nat.add_sub_cancel_left]
                exact h
              have t3 := inGood_one hob12.rd (by rw [lay2_length, HXS.out.1, lay2_length, ← Hnb.out]; omega)
              rw [hgood, hs12] at t3
              have T3 := Lib.hid t3
              have HW12 := Lib.hid hW12
              have H12 := Lib.hid (And.intro hob12 (And.intro hoc12 (And.intro hb12 (And.intro hkept (And.intro hb11 hs12)))))
              obtain ⟨s0, s1, s2, s3, s4, s5, s6⟩ := Facts.out
              rw [hW12] at T3
              clear hob11 hoc11 hq1' hp' hk' hkn' hpl' hknb' hnn' hml' hsn hlc hxl hyl hxq hxr hyq hyr hob12 hoc12 hb12 hs12 hgood hkept t3 hW12 hb11 T2
              go_wp2_with fail
              refine T3.out.mono ?_
              rintro e w13 ⟨rfl, hw13⟩
              rw [← HW12.out] at hw13
              have hb13 : Below W12.heap.size W12 w13 := by rw [← hw13]; exact up_alloc (Below.refl _ _) _
              have t4 := inGood_one (H12.out.2.1.kept hb13).rd (by rw [lay2_length, lay2_length, hcl]; have := HK.out; omega)
              rw [H12.out.2.2.2.1] at t4
              have T4 := Lib.hid t4
              have HB13 := Lib.hid hb13
              clear t4 hb13 hw13 T3 hcl s0 s1 s2 s3 s4 s5 s6 c1' c2' c3' c4' g1 g2 g3 g4 m1 m2' m3 m4 m5 m6
              go_wp2_with fail
              refine T4.out.mono ?_
              rintro e w14 ⟨rfl, hw14⟩
              have hb14 : Below w13.heap.size w13 w14 := by rw [← hw14]; exact up_alloc (Below.refl _ _) _
              have HB14 := Lib.hid hb14
              clear hb14 hw14 T4
              go_wp2_with fail
              refine (lives11_any _).mono ?_
              rintro e w15 ⟨rfl, hb15⟩
              have HB15 := Lib.hid hb15
              clear hb15
              go_wp2_with fail
              go_ret
              have q1 : Below w.heap.size w W8 := HB.out.trans (H8.out.2.2.mono HBz.out)
              have q2 : Below w.heap.size w w10 := up (up q1 H9.out.2.2) HB10.out
              have q3 : Below w.heap.size w w11 := up q2 H12.out.2.2.2.2.1
              have q4 : Below w.heap.size w W12 := q3.trans (H12.out.2.2.1.mono HBz.out)
              exact ⟨rfl, up (up (up q4 HB13.out) HB14.out) HB15.out⟩
theorem inetKept_walk (v : Value) (l : List UInt8) (v2 : Value) (l2 : List UInt8) (ds : List UInt8) (w : World) (h : Rd w w.heap.size v (cellsB l)) (h2 : Rd w w.heap.size v2 (cellsB l2)) (hd : ds.length = 2) :
    Calls Try.prog 6 #[v, v2, .agg (cellsB ds).toArray] w fun e w' => e = .returned (.bool true) ∧ Below w.heap.size w w' := by
  match ds, hd with
  | [d0, d1], _ => exact inetKept_core v l v2 l2 d0 d1 w h h2
end Go.Proofs.Ytfafcihpjcgmhaa
