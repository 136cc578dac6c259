/-
  The text of a prefix: a contract.
-/
import Derived.Test.YtepibdjglfaniaaDoorAdM
import Derived.Test.YtepibdjglfaniaaDoorAdG
namespace Go.Proofs.YtepibdjglfaniaaDoor
open Go.RowKit
theorem bytes_app' (l r : List UInt8) : (⟨l.toArray⟩ : ByteArray) ++ ⟨r.toArray⟩ = ⟨(l ++ r).toArray⟩ := by
  apply Go.WideShapes.bytes_inj
  rw [ByteArray.data_append]
  simp
set_option maxRecDepth 100000 in
theorem showPrefix_bad (p : Pf) (w : World) (hp : p.a.Wide) (h0 : -9223372036854775808 ≤ p.bits) (h1 : p.bits ≤ 9223372036854775807) (hg : ¬ p.Good) : Calls Tryd.prog 28 #[pfV p] w fun e w' => e = .returned (txt p.show) ∧ Below w.heap.size w w' := by
  have hat := heap_alloc_last w (.cells (pfC p).toArray 37)
  have hb1 := up_alloc (Below.refl w.heap.size w) (.cells (pfC p).toArray 37)
  have HG : Hid (∀ w, Calls Tryd.prog 39 #[pfV p] w fun e w' => e = .returned (.bool false) ∧ Below w.heap.size w w') := Lib.hid fun w => by
    have := adGoodPrefix_any p w hp h0 h1
    rwa [decide_eq_false hg] at this
  have hS : txt p.show = .string ⟨#[]⟩ := by rw [Pf.show, if_neg hg]; rfl
  have hsz := info_pfA hp
  have HB := Lib.hid hb1
  rw [hS]
  rw [pfV] at HG ⊢
  generalize (pfC p).toArray = C at *
  clear hS hg hp hb1
  go_enter Tryd.func28, Tryd.ntmps28
  go_wp2_with (first
    | ((with_reducible refine wpList_load_row (o := ⟨some 3, .load 37 (.tmp 1), _, _, _, _⟩) rfl 37 (.tmp 1) rfl w.heap.size ?_ 37 C (0, 0) _ hat Tryd.underlying37 rfl hsz ?_); exact rfl)
    | (go_at_call 39; refine (HG.out _).mono ?_; rintro _ w2 ⟨rfl, hb2⟩))
  go_ret
  exact ⟨rfl, up HB.out hb2⟩
theorem Pf.good_nat {p : Pf} (hp : p.a.Wide) (hg : p.Good) : ∃ n : Nat, p.bits = n ∧ n ≤ 128 := by
  obtain ⟨_, h0, h1, _⟩ := maskOf_some hg
  have := Ad.own_size hp
  exact ⟨p.bits.toNat, by omega, by omega⟩
set_option maxRecDepth 100000 in
theorem showPrefix_good (p : Pf) (w : World) (hp : p.a.Wide) (hg : p.Good) (hV : Vars w) : Calls Tryd.prog 28 #[pfV p] w fun e w' => e = .returned (txt p.show) ∧ Below w.heap.size w w' := by
  obtain ⟨n, hn, hn8⟩ := Pf.good_nat hp hg
  obtain ⟨⟨six, B⟩, bits⟩ := p
  obtain rfl : bits = (n : Int) := hn
  obtain ⟨x0, x1, x2, x3, x4, x5, x6, x7, x8, x9, x10, x11, x12, x13, x14, x15, rfl⟩ := list16 (show B.length = 16 from hp)
  obtain ⟨a, hA⟩ : ∃ a : Ad, a = ⟨six, [x0, x1, x2, x3, x4, x5, x6, x7, x8, x9, x10, x11, x12, x13, x14, x15]⟩ := ⟨_, rfl⟩
  rw [← hA] at hp hg ⊢
  have hL : pfC ⟨a, (n : Int)⟩ = [.bool six, .int .u8 (x0.toNat : Int), .int .u8 (x1.toNat : Int), .int .u8 (x2.toNat : Int), .int .u8 (x3.toNat : Int), .int .u8 (x4.toNat : Int), .int .u8 (x5.toNat : Int), .int .u8 (x6.toNat : Int), .int .u8 (x7.toNat : Int), .int .u8 (x8.toNat : Int), .int .u8 (x9.toNat : Int), .int .u8 (x10.toNat : Int), .int .u8 (x11.toNat : Int), .int .u8 (x12.toNat : Int), .int .u8 (x13.toNat : Int), .int .u8 (x14.toNat : Int), .int .u8 (x15.toNat : Int), .int .i64 ((n : Nat) : Int)] := by rw [hA]; rfl
  have hLa : adV a = .agg #[.bool six, .int .u8 (x0.toNat : Int), .int .u8 (x1.toNat : Int), .int .u8 (x2.toNat : Int), .int .u8 (x3.toNat : Int), .int .u8 (x4.toNat : Int), .int .u8 (x5.toNat : Int), .int .u8 (x6.toNat : Int), .int .u8 (x7.toNat : Int), .int .u8 (x8.toNat : Int), .int .u8 (x9.toNat : Int), .int .u8 (x10.toNat : Int), .int .u8 (x11.toNat : Int), .int .u8 (x12.toNat : Int), .int .u8 (x13.toNat : Int), .int .u8 (x14.toNat : Int), .int .u8 (x15.toNat : Int)] := by rw [hA]; rfl
  have hat : (w.alloc (.cells (pfC ⟨a, (n : Int)⟩).toArray 37)).heap[w.heap.size]? = some (.cells (pfC ⟨a, (n : Int)⟩).toArray 37 (0, 0)) := heap_alloc_last w _
  have hb1 : Below w.heap.size w (w.alloc (.cells (pfC ⟨a, (n : Int)⟩).toArray 37)) := up_alloc (Below.refl _ w) _
  have hP : ∀ wr, Below (w.alloc (.cells (pfC ⟨a, (n : Int)⟩).toArray 37)).heap.size (w.alloc (.cells (pfC ⟨a, (n : Int)⟩).toArray 37)) wr → ∀ (j : Nat) (u : Value), (pfC ⟨a, (n : Int)⟩)[j]? = some u → wr.cell? ⟨w.heap.size, j, none⟩ = some u := fun wr hb => by
    have h := (hb.block w.heap.size (by simp)).trans hat
    exact fun j u hu => by rw [cell_of_row wr _ _ _ _ _ h, List.getElem?_toArray]; exact hu
  have hgood := fun w => adGoodPrefix_any ⟨a, (n : Int)⟩ w hp (by show (-9223372036854775808 : Int) ≤ n; omega) (by show (n : Int) ≤ 9223372036854775807; omega)
  simp only [decide_eq_true hg] at hgood
  have hsz : (Tryd.prog.info? 37).map (·.size) = some (pfC ⟨a, (n : Int)⟩).toArray.size := info_pfA (p := ⟨a, (n : Int)⟩) hp
  have hshow : ∀ wr, Below (w.alloc (.cells (pfC ⟨a, (n : Int)⟩).toArray 37)).heap.size (w.alloc (.cells (pfC ⟨a, (n : Int)⟩).toArray 37)) wr → Calls Tryd.prog 20 #[adV a] wr fun e w' => e = .returned (txt a.show) ∧ Below wr.heap.size wr w' := fun wr hb => adShow_any a wr hp ((hV.up hb1).up hb)
  have hitoa : ∀ wr, Below (w.alloc (.cells (pfC ⟨a, (n : Int)⟩).toArray 37)).heap.size (w.alloc (.cells (pfC ⟨a, (n : Int)⟩).toArray 37)) wr → Calls Tryd.prog 40 #[.int .i64 (n : Int)] wr fun e w' => e = .returned (.string ⟨(digs 10 n).toArray⟩) ∧ Below wr.heap.size wr w' := fun wr hb => itoa_any n (by omega) wr ((hV.up hb1).up hb)
  have hres : txt (Pf.show ⟨a, (n : Int)⟩) = .string ((⟨a.show.toArray⟩ : ByteArray) ++ ⟨#[47]⟩ ++ ⟨(digs 10 n).toArray⟩) := by
    rw [Pf.show, if_pos hg, bytes_app' a.show [47], bytes_app', digs_ten, txt]
    simp
  have hs39 := Ad.show_long (a := a) hp
  have hsA : (⟨a.show.toArray⟩ : ByteArray).size ≤ 39 := by simpa [ByteArray.size] using hs39
  have hsB : (⟨(digs 10 n).toArray⟩ : ByteArray).size ≤ 3 := by
    have := digs_short (base := 10) (by omega) 3 n (by omega) (by omega)
    simpa [ByteArray.size] using this
  rw [hLa] at hshow
  rw [pfV] at hgood ⊢
  rw [hres]
  rw [hL] at *
  have Hg := Lib.hid hgood
  have HP := Lib.hid hP
  rw [txt] at hshow
  generalize (⟨a.show.toArray⟩ : ByteArray) = A at hshow hsA ⊢
  generalize (⟨(digs 10 n).toArray⟩ : ByteArray) = D at hitoa hsB ⊢
  have hsum : ¬ 9223372036854775807 < A.size + 1 := by omega
  have hsum3 : ¬ 9223372036854775807 < A.size + 1 + D.size := by omega
  have hsum2 : ¬ 9223372036854775807 < (A ++ ⟨#[47]⟩).size + D.size := by
    rw [ByteArray.size_append]
    have : (⟨#[47]⟩ : ByteArray).size = 1 := rfl
    omega
  have Hsh := Lib.hid hshow
  have Hit := Lib.hid hitoa
  have HU := Lib.hid hb1
  clear hgood hP hshow hitoa hb1 hV hL hLa hA hres hs39 hp hg a
  go_enter Tryd.func28, Tryd.ntmps28
  go_wp2_with (first
    | ((with_reducible refine wpList_load_row (o := ⟨some 3, .load 37 (.tmp 1), _, _, _, _⟩) rfl 37 (.tmp 1) rfl w.heap.size ?_ 37 #[.bool six, .int .u8 (x0.toNat : Int), .int .u8 (x1.toNat : Int), .int .u8 (x2.toNat : Int), .int .u8 (x3.toNat : Int), .int .u8 (x4.toNat : Int), .int .u8 (x5.toNat : Int), .int .u8 (x6.toNat : Int), .int .u8 (x7.toNat : Int), .int .u8 (x8.toNat : Int), .int .u8 (x9.toNat : Int), .int .u8 (x10.toNat : Int), .int .u8 (x11.toNat : Int), .int .u8 (x12.toNat : Int), .int .u8 (x13.toNat : Int), .int .u8 (x14.toNat : Int), .int .u8 (x15.toNat : Int), .int .i64 ((n : Nat) : Int)] (0, 0) _ hat Tryd.underlying37 rfl hsz ?_); exact rfl)
    | (go_at_call 39; refine (Hg.out _).mono ?_; rintro _ w2 ⟨rfl, hb2⟩; have HQ2 := Lib.hid (HP.out w2 hb2)))
  go_region_held3 (fun w' => w'.cell? ⟨w.heap.size, 0, none⟩ = some (.bool six) ∧ w'.cell? ⟨w.heap.size, 1, none⟩ = some (.int .u8 (x0.toNat : Int)) ∧ w'.cell? ⟨w.heap.size, 2, none⟩ = some (.int .u8 (x1.toNat : Int)) ∧ w'.cell? ⟨w.heap.size, 3, none⟩ = some (.int .u8 (x2.toNat : Int)) ∧ w'.cell? ⟨w.heap.size, 4, none⟩ = some (.int .u8 (x3.toNat : Int)) ∧ w'.cell? ⟨w.heap.size, 5, none⟩ = some (.int .u8 (x4.toNat : Int)) ∧ w'.cell? ⟨w.heap.size, 6, none⟩ = some (.int .u8 (x5.toNat : Int)) ∧ w'.cell? ⟨w.heap.size, 7, none⟩ = some (.int .u8 (x6.toNat : Int)) ∧ w'.cell? ⟨w.heap.size, 8, none⟩ = some (.int .u8 (x7.toNat : Int)) ∧ w'.cell? ⟨w.heap.size, 9, none⟩ = some (.int .u8 (x8.toNat : Int)) ∧ w'.cell? ⟨w.heap.size, 10, none⟩ = some (.int .u8 (x9.toNat : Int)) ∧ w'.cell? ⟨w.heap.size, 11, none⟩ = some (.int .u8 (x10.toNat : Int)) ∧ w'.cell? ⟨w.heap.size, 12, none⟩ = some (.int .u8 (x11.toNat : Int)) ∧ w'.cell? ⟨w.heap.size, 13, none⟩ = some (.int .u8 (x12.toNat : Int)) ∧ w'.cell? ⟨w.heap.size, 14, none⟩ = some (.int .u8 (x13.toNat : Int)) ∧ w'.cell? ⟨w.heap.size, 15, none⟩ = some (.int .u8 (x14.toNat : Int)) ∧ w'.cell? ⟨w.heap.size, 16, none⟩ = some (.int .u8 (x15.toNat : Int)) ∧ w'.cell? ⟨w.heap.size, 17, none⟩ = some (.int .i64 ((n : Nat) : Int)))
    (first | exact ⟨HQ2.out 0 _ rfl, HQ2.out 1 _ rfl, HQ2.out 2 _ rfl, HQ2.out 3 _ rfl, HQ2.out 4 _ rfl, HQ2.out 5 _ rfl, HQ2.out 6 _ rfl, HQ2.out 7 _ rfl, HQ2.out 8 _ rfl, HQ2.out 9 _ rfl, HQ2.out 10 _ rfl, HQ2.out 11 _ rfl, HQ2.out 12 _ rfl, HQ2.out 13 _ rfl, HQ2.out 14 _ rfl, HQ2.out 15 _ rfl, HQ2.out 16 _ rfl, HQ2.out 17 _ rfl⟩ | exact ⟨HQ3.out.2 0 _ rfl, HQ3.out.2 1 _ rfl, HQ3.out.2 2 _ rfl, HQ3.out.2 3 _ rfl, HQ3.out.2 4 _ rfl, HQ3.out.2 5 _ rfl, HQ3.out.2 6 _ rfl, HQ3.out.2 7 _ rfl, HQ3.out.2 8 _ rfl, HQ3.out.2 9 _ rfl, HQ3.out.2 10 _ rfl, HQ3.out.2 11 _ rfl, HQ3.out.2 12 _ rfl, HQ3.out.2 13 _ rfl, HQ3.out.2 14 _ rfl, HQ3.out.2 15 _ rfl, HQ3.out.2 16 _ rfl, HQ3.out.2 17 _ rfl⟩ | exact ⟨HQ4.out.2 0 _ rfl, HQ4.out.2 1 _ rfl, HQ4.out.2 2 _ rfl, HQ4.out.2 3 _ rfl, HQ4.out.2 4 _ rfl, HQ4.out.2 5 _ rfl, HQ4.out.2 6 _ rfl, HQ4.out.2 7 _ rfl, HQ4.out.2 8 _ rfl, HQ4.out.2 9 _ rfl, HQ4.out.2 10 _ rfl, HQ4.out.2 11 _ rfl, HQ4.out.2 12 _ rfl, HQ4.out.2 13 _ rfl, HQ4.out.2 14 _ rfl, HQ4.out.2 15 _ rfl, HQ4.out.2 16 _ rfl, HQ4.out.2 17 _ rfl⟩)
    (first
      | (go_at_call 20; refine (Hsh.out _ (up_drew hb2)).mono ?_; rintro _ w3 ⟨rfl, hb3⟩; have HQ3 := Lib.hid (And.intro (up (up_drew hb2) hb3) (HP.out w3 (up (up_drew hb2) hb3))); clear hb3)
      | (go_at_call 40; refine (Hit.out _ HQ3.out.1).mono ?_; rintro _ w4 ⟨rfl, hb4⟩; have HQ4 := Lib.hid (And.intro (up HQ3.out.1 hb4) (HP.out w4 (up HQ3.out.1 hb4))); clear hb4))
  go_wp2_with fail
  go_ret
  exact ⟨rfl, HU.out.trans (HQ4.out.1.mono HU.out.size)⟩
/-- The text of a prefix. -/
theorem showPrefix_any (p : Pf) (w : World) (hp : p.a.Wide) (h0 : -9223372036854775808 ≤ p.bits) (h1 : p.bits ≤ 9223372036854775807) (hV : Vars w) : Calls Tryd.prog 28 #[pfV p] w fun e w' => e = .returned (txt p.show) ∧ Below w.heap.size w w' := by
  by_cases hg : p.Good
  · exact showPrefix_good p w hp hg hV
  · exact showPrefix_bad p w hp h0 h1 hg
end Go.Proofs.YtepibdjglfaniaaDoor
