/-
  The document's text of a prefix: a contract.
-/
import Derived.Test.YtepibdjglfaniaaDoorAdPa
import Derived.Test.YtepibdjglfaniaaDoorAdY
import Derived.Test.YtepibdjglfaniaaDoorAdT
import Derived.Test.YtepibdjglfaniaaDoorAdU
namespace Go.Proofs.YtepibdjglfaniaaDoor
open Go.RowKit
set_option maxRecDepth 100000 in
theorem rfShowPrefix_bad (p q : Pf) (is : Bool) (w : World) (hp : p.a.Wide) (hqw : q.a.Wide) (h0 : -9223372036854775808 ≤ p.bits) (h1 : p.bits ≤ 9223372036854775807)
    (hq : (maskOf p.a p.bits).getD Pf.zero = q) (his : (maskOf p.a p.bits).isSome = is) (hbad : is = false ∨ (is = true ∧ q ≠ p)) : Calls Tryd.prog 29 #[pfV p] w fun e w' => e = .returned (.string ⟨#[]⟩) ∧ Below w.heap.size w w' := by
  have hz : ∀ w, (zeroValue 37).run Tryd.prog w = .ok (.agg (pfC Pf.zero).toArray) w := zero_pf
  have hmask := fun w => rfMask_any p.a p.bits w hp h0 h1
  rw [hq, his] at hmask
  have hat : PfAt (w.alloc (.cells (pfC p).toArray 37)) w.heap.size p := heap_alloc_last w _
  have hb1 := up_alloc (Below.refl w.heap.size w) (.cells (pfC p).toArray 37)
  have k0 := pfC_range0 hat
  have kb := pfC_bits hp hat
  have HP : Hid (∀ wr, Below (w.alloc (.cells (pfC p).toArray 37)).heap.size (w.alloc (.cells (pfC p).toArray 37)) wr → wr.rangeAt w.heap.size 0 (pfC p)) := Lib.hid fun wr hb => rangeAt_block ((hb.block w.heap.size (by simp)).trans hat) fun j u hu => by rw [Nat.zero_add]; exact hu
  have HQ : Hid (∀ w2 : World, (w2.alloc (.cells (pfC q).toArray 37)).rangeAt w2.heap.size 0 (pfC q)) := Lib.hid fun w2 => rangeAt_block (heap_alloc_last w2 _) fun j u hu => by rw [Nat.zero_add]; exact hu
  have hne := neq_pf q p hqw hp
  have hil := info_ad hp
  have hip := info_pf hp
  have hiq := info_pf hqw
  have hi0 := info_pfA hqw
  have hzs : (pfC Pf.zero).toArray.size = (pfC q).toArray.size := by rw [List.size_toArray, List.size_toArray, pfC_length (p := Pf.zero) rfl, pfC_length hqw]
  have hza := all_oneCell_toArray (pfC_one q)
  have HB := Lib.hid hb1
  have Hm := Lib.hid hmask
  clear hmask hb1 hat hq his hp hqw
  simp only [pfV, adV] at Hm hne ⊢
  generalize pfC Pf.zero = Z at *
  generalize hd : decide (q = p) = d at *
  have hdd : is = false ∨ (is = true ∧ d = false) := by
    rcases hbad with h | ⟨h, h2⟩
    · exact Or.inl h
    · exact Or.inr ⟨h, by rw [← hd]; exact decide_eq_false h2⟩
  clear hbad hd
  generalize pfC p = C at *
  generalize pfC q = E at *
  generalize adC p.a = F at *
  rcases hdd with rfl | ⟨rfl, rfl⟩
  all_goals
    go_enter Tryd.func29, Tryd.ntmps29
    go_wp2_with (first
      | ((with_reducible refine wpList_load_mid (op := ⟨some 7, .load 24 (.tmp 6), _, _, _, _⟩) rfl 24 (.tmp 6) rfl w.heap.size 0 ?_ F _ k0 Tryd.underlying24 rfl hil ?_); exact rfl)
      | (go_at_call 41; refine (Hm.out _).mono ?_; rintro _ w2 ⟨rfl, hb2⟩; have hb3 := up_alloc hb2 (.cells E.toArray 37); have k3 := HP.out _ hb3; have k4 := HQ.out w2)
      | (with_reducible refine wpList_alloc_zero (o := ⟨some 3, .alloc 37, _, _, _, _⟩) rfl 37 rfl Z.toArray hz ?_)
      | ((with_reducible refine wpList_store_new (o := ⟨none, .store 37 (.tmp 3) (.tmp 11), _, _, _, _⟩) rfl 37 (.tmp 3) (.tmp 11) rfl Z.toArray E.toArray ?_ ?_ hi0 hzs hza ?_); exact rfl; exact rfl)
      | ((with_reducible refine wpList_load_mid_g (op := ⟨some 16, .load 37 (.tmp 3), _, _, _, _⟩) ?_ 37 (.tmp 3) rfl w2.heap.size 0 ?_ E _ k4 Tryd.underlying37 rfl hiq ?_); rfl; exact rfl)
      | ((with_reducible refine wpList_load_mid_g (op := ⟨some 17, .load 37 (.tmp 1), _, _, _, _⟩) ?_ 37 (.tmp 1) rfl w.heap.size 0 ?_ C _ k3 Tryd.underlying37 rfl hip ?_); rfl; exact rfl))
    go_ret
    exact ⟨rfl, HB.out.trans (hb3.mono HB.out.size)⟩
set_option maxRecDepth 100000 in
theorem rfShowPrefix_good (p : Pf) (w : World) (hp : p.a.Wide) (hg : p.Good) : Calls Tryd.prog 29 #[pfV p] w fun e w' => e = .returned (txt p.show) ∧ Below w.heap.size w w' := by
  obtain ⟨n, hn, hn8⟩ := Pf.good_nat hp hg
  obtain ⟨⟨six, B⟩, bits⟩ := p
  obtain rfl : bits = (n : Int) := hn
  obtain ⟨x0, x1, x2, x3, x4, x5, x6, x7, x8, x9, x10, x11, x12, x13, x14, x15, rfl⟩ := list16 (show B.length = 16 from hp)
  obtain ⟨a, hA⟩ : ∃ a : Ad, a = ⟨six, [x0, x1, x2, x3, x4, x5, x6, x7, x8, x9, x10, x11, x12, x13, x14, x15]⟩ := ⟨_, rfl⟩
  rw [← hA] at hp hg ⊢
  have hL : pfC ⟨a, (n : Int)⟩ = [.bool six, .int .u8 (x0.toNat : Int), .int .u8 (x1.toNat : Int), .int .u8 (x2.toNat : Int), .int .u8 (x3.toNat : Int), .int .u8 (x4.toNat : Int), .int .u8 (x5.toNat : Int), .int .u8 (x6.toNat : Int), .int .u8 (x7.toNat : Int), .int .u8 (x8.toNat : Int), .int .u8 (x9.toNat : Int), .int .u8 (x10.toNat : Int), .int .u8 (x11.toNat : Int), .int .u8 (x12.toNat : Int), .int .u8 (x13.toNat : Int), .int .u8 (x14.toNat : Int), .int .u8 (x15.toNat : Int), .int .i64 ((n : Nat) : Int)] := by rw [hA]; rfl
  have hLa : adC a = [.bool six, .int .u8 (x0.toNat : Int), .int .u8 (x1.toNat : Int), .int .u8 (x2.toNat : Int), .int .u8 (x3.toNat : Int), .int .u8 (x4.toNat : Int), .int .u8 (x5.toNat : Int), .int .u8 (x6.toNat : Int), .int .u8 (x7.toNat : Int), .int .u8 (x8.toNat : Int), .int .u8 (x9.toNat : Int), .int .u8 (x10.toNat : Int), .int .u8 (x11.toNat : Int), .int .u8 (x12.toNat : Int), .int .u8 (x13.toNat : Int), .int .u8 (x14.toNat : Int), .int .u8 (x15.toNat : Int)] := by rw [hA]; rfl
  have hz : ∀ w, (zeroValue 37).run Tryd.prog w = .ok (.agg (pfC Pf.zero).toArray) w := zero_pf
  have hat : (w.alloc (.cells (pfC ⟨a, (n : Int)⟩).toArray 37)).heap[w.heap.size]? = some (.cells (pfC ⟨a, (n : Int)⟩).toArray 37 (0, 0)) := heap_alloc_last w _
  have hb1 : Below w.heap.size w (w.alloc (.cells (pfC ⟨a, (n : Int)⟩).toArray 37)) := up_alloc (Below.refl _ w) _
  have k0 := pfC_range0 (p := ⟨a, (n : Int)⟩) hat
  have kb := pfC_bits (p := ⟨a, (n : Int)⟩) hp hat
  dsimp only at k0 kb
  have hP : ∀ wr, Below (w.alloc (.cells (pfC ⟨a, (n : Int)⟩).toArray 37)).heap.size (w.alloc (.cells (pfC ⟨a, (n : Int)⟩).toArray 37)) wr → ∀ (j : Nat) (u : Value), (pfC ⟨a, (n : Int)⟩)[j]? = some u → wr.cell? ⟨w.heap.size, j, none⟩ = some u := fun wr hb => by
    have h := (hb.block w.heap.size (by simp)).trans hat
    exact fun j u hu => by rw [cell_of_row wr _ _ _ _ _ h, List.getElem?_toArray]; exact hu
  have hR : ∀ wr, Below (w.alloc (.cells (pfC ⟨a, (n : Int)⟩).toArray 37)).heap.size (w.alloc (.cells (pfC ⟨a, (n : Int)⟩).toArray 37)) wr → wr.rangeAt w.heap.size 0 (pfC ⟨a, (n : Int)⟩) := fun wr hb => rangeAt_block ((hb.block w.heap.size (by simp)).trans hat) fun j u hu => by rw [Nat.zero_add]; exact hu
  have hQ : ∀ w2 : World, (w2.alloc (.cells (pfC ⟨a, (n : Int)⟩).toArray 37)).rangeAt w2.heap.size 0 (pfC ⟨a, (n : Int)⟩) := fun w2 => rangeAt_block (heap_alloc_last w2 _) fun j u hu => by rw [Nat.zero_add]; exact hu
  have hmask := fun w => rfMask_any a (n : Int) w hp (by omega) (by omega)
  rw [show maskOf a (n : Int) = some ⟨a, (n : Int)⟩ from hg] at hmask
  simp only [Option.getD_some, Option.isSome_some] at hmask
  have hne := neq_pf ⟨a, (n : Int)⟩ ⟨a, (n : Int)⟩ hp hp
  simp only [decide_true, Bool.not_true] at hne
  have hil := info_ad hp
  have hip : (Tryd.prog.info? 37).map (·.size) = some (pfC ⟨a, (n : Int)⟩).length := info_pf (p := ⟨a, (n : Int)⟩) hp
  have hi0 : (Tryd.prog.info? 37).map (·.size) = some (pfC ⟨a, (n : Int)⟩).toArray.size := info_pfA (p := ⟨a, (n : Int)⟩) hp
  have hzs : (pfC Pf.zero).toArray.size = (pfC ⟨a, (n : Int)⟩).toArray.size := by rw [List.size_toArray, List.size_toArray, pfC_length (p := Pf.zero) rfl, pfC_length (p := ⟨a, (n : Int)⟩) hp]
  have hza := all_oneCell_toArray (pfC_one ⟨a, (n : Int)⟩)
  have hshow : ∀ wr, Calls Tryd.prog 25 #[adV a] wr fun e w' => e = .returned (txt a.show) ∧ Below wr.heap.size wr w' := fun wr => rfShow_any a wr hp
  have hnum : ∀ wr, Calls Tryd.prog 35 #[.int .i64 (n : Int), .int .i64 10] wr fun e w' => e = .returned (.string ⟨(digs 10 n).toArray⟩) ∧ Below wr.heap.size wr w' := fun wr => rfNum_any (base := 10) (Or.inl rfl) n (by omega) wr
  have hres : txt (Pf.show ⟨a, (n : Int)⟩) = .string ((⟨a.show.toArray⟩ : ByteArray) ++ ⟨#[47]⟩ ++ ⟨(digs 10 n).toArray⟩) := by
    rw [Pf.show, if_pos hg, bytes_app' a.show [47], bytes_app', digs_ten, txt]
    simp
  have hs39 := Ad.show_long (a := a) hp
  have hsA : (⟨a.show.toArray⟩ : ByteArray).size ≤ 39 := by simpa [ByteArray.size] using hs39
  have hsB : (⟨(digs 10 n).toArray⟩ : ByteArray).size ≤ 3 := by
    have := digs_short (base := 10) (by omega) 3 n (by omega) (by omega)
    simpa [ByteArray.size] using this
  rw [adV] at hshow
  rw [pfV] at hmask hne ⊢
  rw [hres]
  simp only [adV, hLa] at hmask
  rw [hLa] at hshow k0 hil
  rw [hL] at *
  rw [txt] at hshow
  generalize (⟨a.show.toArray⟩ : ByteArray) = A at hshow hsA ⊢
  generalize (⟨(digs 10 n).toArray⟩ : ByteArray) = D at hnum hsB ⊢
  have hsum : ¬ 9223372036854775807 < A.size + 1 := by omega
  have hsum3 : ¬ 9223372036854775807 < A.size + 1 + D.size := by omega
  have Hm := Lib.hid hmask
  have HP := Lib.hid hP
  have HR := Lib.hid hR
  have HQ := Lib.hid hQ
  have Hsh := Lib.hid hshow
  have Hnu := Lib.hid hnum
  have HU := Lib.hid hb1
  generalize pfC Pf.zero = Z at *
  clear hmask hP hR hQ hshow hnum hb1 hat hL hLa hA hres hs39 hp hg a
  go_enter Tryd.func29, Tryd.ntmps29
  go_wp2_with (first
    | ((with_reducible refine wpList_load_mid (op := ⟨some 7, .load 24 (.tmp 6), _, _, _, _⟩) rfl 24 (.tmp 6) rfl w.heap.size 0 ?_ [.bool six, .int .u8 (x0.toNat : Int), .int .u8 (x1.toNat : Int), .int .u8 (x2.toNat : Int), .int .u8 (x3.toNat : Int), .int .u8 (x4.toNat : Int), .int .u8 (x5.toNat : Int), .int .u8 (x6.toNat : Int), .int .u8 (x7.toNat : Int), .int .u8 (x8.toNat : Int), .int .u8 (x9.toNat : Int), .int .u8 (x10.toNat : Int), .int .u8 (x11.toNat : Int), .int .u8 (x12.toNat : Int), .int .u8 (x13.toNat : Int), .int .u8 (x14.toNat : Int), .int .u8 (x15.toNat : Int)] _ k0 Tryd.underlying24 rfl hil ?_); exact rfl)
    | (go_at_call 41; refine (Hm.out _).mono ?_; rintro _ w2 ⟨rfl, hb2⟩; have hb3 := up_alloc hb2 (.cells #[.bool six, .int .u8 (x0.toNat : Int), .int .u8 (x1.toNat : Int), .int .u8 (x2.toNat : Int), .int .u8 (x3.toNat : Int), .int .u8 (x4.toNat : Int), .int .u8 (x5.toNat : Int), .int .u8 (x6.toNat : Int), .int .u8 (x7.toNat : Int), .int .u8 (x8.toNat : Int), .int .u8 (x9.toNat : Int), .int .u8 (x10.toNat : Int), .int .u8 (x11.toNat : Int), .int .u8 (x12.toNat : Int), .int .u8 (x13.toNat : Int), .int .u8 (x14.toNat : Int), .int .u8 (x15.toNat : Int), .int .i64 ((n : Nat) : Int)] 37); have k3 := HR.out _ hb3; have k4 := HQ.out w2; have HQ2 := Lib.hid (HP.out _ hb3))
    | (with_reducible refine wpList_alloc_zero (o := ⟨some 3, .alloc 37, _, _, _, _⟩) rfl 37 rfl Z.toArray hz ?_)
    | ((with_reducible refine wpList_store_new (o := ⟨none, .store 37 (.tmp 3) (.tmp 11), _, _, _, _⟩) rfl 37 (.tmp 3) (.tmp 11) rfl Z.toArray #[.bool six, .int .u8 (x0.toNat : Int), .int .u8 (x1.toNat : Int), .int .u8 (x2.toNat : Int), .int .u8 (x3.toNat : Int), .int .u8 (x4.toNat : Int), .int .u8 (x5.toNat : Int), .int .u8 (x6.toNat : Int), .int .u8 (x7.toNat : Int), .int .u8 (x8.toNat : Int), .int .u8 (x9.toNat : Int), .int .u8 (x10.toNat : Int), .int .u8 (x11.toNat : Int), .int .u8 (x12.toNat : Int), .int .u8 (x13.toNat : Int), .int .u8 (x14.toNat : Int), .int .u8 (x15.toNat : Int), .int .i64 ((n : Nat) : Int)] ?_ ?_ hi0 hzs hza ?_); exact rfl; exact rfl)
    | ((with_reducible refine wpList_load_mid_g (op := ⟨some 16, .load 37 (.tmp 3), _, _, _, _⟩) ?_ 37 (.tmp 3) rfl w2.heap.size 0 ?_ [.bool six, .int .u8 (x0.toNat : Int), .int .u8 (x1.toNat : Int), .int .u8 (x2.toNat : Int), .int .u8 (x3.toNat : Int), .int .u8 (x4.toNat : Int), .int .u8 (x5.toNat : Int), .int .u8 (x6.toNat : Int), .int .u8 (x7.toNat : Int), .int .u8 (x8.toNat : Int), .int .u8 (x9.toNat : Int), .int .u8 (x10.toNat : Int), .int .u8 (x11.toNat : Int), .int .u8 (x12.toNat : Int), .int .u8 (x13.toNat : Int), .int .u8 (x14.toNat : Int), .int .u8 (x15.toNat : Int), .int .i64 ((n : Nat) : Int)] _ k4 Tryd.underlying37 rfl hip ?_); rfl; exact rfl)
    | ((with_reducible refine wpList_load_mid_g (op := ⟨some 17, .load 37 (.tmp 1), _, _, _, _⟩) ?_ 37 (.tmp 1) rfl w.heap.size 0 ?_ [.bool six, .int .u8 (x0.toNat : Int), .int .u8 (x1.toNat : Int), .int .u8 (x2.toNat : Int), .int .u8 (x3.toNat : Int), .int .u8 (x4.toNat : Int), .int .u8 (x5.toNat : Int), .int .u8 (x6.toNat : Int), .int .u8 (x7.toNat : Int), .int .u8 (x8.toNat : Int), .int .u8 (x9.toNat : Int), .int .u8 (x10.toNat : Int), .int .u8 (x11.toNat : Int), .int .u8 (x12.toNat : Int), .int .u8 (x13.toNat : Int), .int .u8 (x14.toNat : Int), .int .u8 (x15.toNat : Int), .int .i64 ((n : Nat) : Int)] _ k3 Tryd.underlying37 rfl hip ?_); rfl; exact rfl))
  go_region_held3 (fun w' => w'.cell? ⟨w.heap.size, 0, none⟩ = some (.bool six) ∧ w'.cell? ⟨w.heap.size, 1, none⟩ = some (.int .u8 (x0.toNat : Int)) ∧ w'.cell? ⟨w.heap.size, 2, none⟩ = some (.int .u8 (x1.toNat : Int)) ∧ w'.cell? ⟨w.heap.size, 3, none⟩ = some (.int .u8 (x2.toNat : Int)) ∧ w'.cell? ⟨w.heap.size, 4, none⟩ = some (.int .u8 (x3.toNat : Int)) ∧ w'.cell? ⟨w.heap.size, 5, none⟩ = some (.int .u8 (x4.toNat : Int)) ∧ w'.cell? ⟨w.heap.size, 6, none⟩ = some (.int .u8 (x5.toNat : Int)) ∧ w'.cell? ⟨w.heap.size, 7, none⟩ = some (.int .u8 (x6.toNat : Int)) ∧ w'.cell? ⟨w.heap.size, 8, none⟩ = some (.int .u8 (x7.toNat : Int)) ∧ w'.cell? ⟨w.heap.size, 9, none⟩ = some (.int .u8 (x8.toNat : Int)) ∧ w'.cell? ⟨w.heap.size, 10, none⟩ = some (.int .u8 (x9.toNat : Int)) ∧ w'.cell? ⟨w.heap.size, 11, none⟩ = some (.int .u8 (x10.toNat : Int)) ∧ w'.cell? ⟨w.heap.size, 12, none⟩ = some (.int .u8 (x11.toNat : Int)) ∧ w'.cell? ⟨w.heap.size, 13, none⟩ = some (.int .u8 (x12.toNat : Int)) ∧ w'.cell? ⟨w.heap.size, 14, none⟩ = some (.int .u8 (x13.toNat : Int)) ∧ w'.cell? ⟨w.heap.size, 15, none⟩ = some (.int .u8 (x14.toNat : Int)) ∧ w'.cell? ⟨w.heap.size, 16, none⟩ = some (.int .u8 (x15.toNat : Int)) ∧ w'.cell? ⟨w.heap.size, 17, none⟩ = some (.int .i64 ((n : Nat) : Int)))
    (first | exact ⟨HQ2.out 0 _ rfl, HQ2.out 1 _ rfl, HQ2.out 2 _ rfl, HQ2.out 3 _ rfl, HQ2.out 4 _ rfl, HQ2.out 5 _ rfl, HQ2.out 6 _ rfl, HQ2.out 7 _ rfl, HQ2.out 8 _ rfl, HQ2.out 9 _ rfl, HQ2.out 10 _ rfl, HQ2.out 11 _ rfl, HQ2.out 12 _ rfl, HQ2.out 13 _ rfl, HQ2.out 14 _ rfl, HQ2.out 15 _ rfl, HQ2.out 16 _ rfl, HQ2.out 17 _ rfl⟩ | exact ⟨HQ3.out.2 0 _ rfl, HQ3.out.2 1 _ rfl, HQ3.out.2 2 _ rfl, HQ3.out.2 3 _ rfl, HQ3.out.2 4 _ rfl, HQ3.out.2 5 _ rfl, HQ3.out.2 6 _ rfl, HQ3.out.2 7 _ rfl, HQ3.out.2 8 _ rfl, HQ3.out.2 9 _ rfl, HQ3.out.2 10 _ rfl, HQ3.out.2 11 _ rfl, HQ3.out.2 12 _ rfl, HQ3.out.2 13 _ rfl, HQ3.out.2 14 _ rfl, HQ3.out.2 15 _ rfl, HQ3.out.2 16 _ rfl, HQ3.out.2 17 _ rfl⟩ | exact ⟨HQ4.out.2 0 _ rfl, HQ4.out.2 1 _ rfl, HQ4.out.2 2 _ rfl, HQ4.out.2 3 _ rfl, HQ4.out.2 4 _ rfl, HQ4.out.2 5 _ rfl, HQ4.out.2 6 _ rfl, HQ4.out.2 7 _ rfl, HQ4.out.2 8 _ rfl, HQ4.out.2 9 _ rfl, HQ4.out.2 10 _ rfl, HQ4.out.2 11 _ rfl, HQ4.out.2 12 _ rfl, HQ4.out.2 13 _ rfl, HQ4.out.2 14 _ rfl, HQ4.out.2 15 _ rfl, HQ4.out.2 16 _ rfl, HQ4.out.2 17 _ rfl⟩)
    (first
      | (go_at_call 25; refine (Hsh.out _).mono ?_; rintro _ w3 ⟨rfl, hb4⟩; have HQ3 := Lib.hid (And.intro (up (up_drew hb3) hb4) (HP.out w3 (up (up_drew hb3) hb4))); clear hb4)
      | (go_at_call 35; refine (Hnu.out _).mono ?_; rintro _ w4 ⟨rfl, hb5⟩; have HQ4 := Lib.hid (And.intro (up HQ3.out.1 hb5) (HP.out w4 (up HQ3.out.1 hb5))); clear hb5))
  go_wp2_with fail
  go_ret
  exact ⟨rfl, HU.out.trans (HQ4.out.1.mono HU.out.size)⟩
/-- The document's text of a prefix. -/
theorem rfShowPrefix_any (p : Pf) (w : World) (hp : p.a.Wide) (h0 : -9223372036854775808 ≤ p.bits) (h1 : p.bits ≤ 9223372036854775807) : Calls Tryd.prog 29 #[pfV p] w fun e w' => e = .returned (txt p.show) ∧ Below w.heap.size w w' := by
  by_cases hg : p.Good
  · exact rfShowPrefix_good p w hp hg
  · rw [show txt p.show = .string ⟨#[]⟩ by rw [Pf.show, if_neg hg]; rfl]
    cases hm : maskOf p.a p.bits with
    | none => exact rfShowPrefix_bad p Pf.zero false w hp rfl h0 h1 (by rw [hm]; rfl) (by rw [hm]; rfl) (Or.inl rfl)
    | some q =>
      have hqw : q.a.Wide := by
        obtain ⟨_, _, _, rfl⟩ := maskOf_some hm
        exact maskA_wide hp _
      exact rfShowPrefix_bad p q true w hp hqw h0 h1 (by rw [hm]; rfl) (by rw [hm]; rfl) (Or.inr ⟨rfl, fun e => hg (by rw [Pf.Good, hm, e])⟩)
end Go.Proofs.YtepibdjglfaniaaDoor
