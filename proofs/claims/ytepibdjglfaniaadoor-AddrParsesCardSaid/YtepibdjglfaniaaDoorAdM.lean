/-
  The text of an address: a contract.
-/
import Derived.Test.YtepibdjglfaniaaDoorAdL
import Derived.Test.YtepibdjglfaniaaDoorAdB
namespace Go.Proofs.YtepibdjglfaniaaDoor
open Go.RowKit
set_option maxRecDepth 100000 in
theorem adShow_any (a : Ad) (w : World) (ha : a.Wide) (hV : Vars w) : Calls Tryd.prog 20 #[adV a] w fun e w' => e = .returned (txt a.show) ∧ Below w.heap.size w w' := by
  obtain ⟨six, B⟩ := a
  obtain ⟨x0, x1, x2, x3, x4, x5, x6, x7, x8, x9, x10, x11, x12, x13, x14, x15, rfl⟩ := list16 (show B.length = 16 from ha)
  obtain ⟨a, hA⟩ : ∃ a : Ad, a = ⟨six, [x0, x1, x2, x3, x4, x5, x6, x7, x8, x9, x10, x11, x12, x13, x14, x15]⟩ := ⟨_, rfl⟩
  rw [← hA] at ha ⊢
  have hL : adC a = [.bool six, .int .u8 (x0.toNat : Int), .int .u8 (x1.toNat : Int), .int .u8 (x2.toNat : Int), .int .u8 (x3.toNat : Int), .int .u8 (x4.toNat : Int), .int .u8 (x5.toNat : Int), .int .u8 (x6.toNat : Int), .int .u8 (x7.toNat : Int), .int .u8 (x8.toNat : Int), .int .u8 (x9.toNat : Int), .int .u8 (x10.toNat : Int), .int .u8 (x11.toNat : Int), .int .u8 (x12.toNat : Int), .int .u8 (x13.toNat : Int), .int .u8 (x14.toNat : Int), .int .u8 (x15.toNat : Int)] := by rw [hA]; rfl
  have hsix : a.six = six := by rw [hA]
  have hat : (w.alloc (.cells (adC a).toArray 24)).heap[w.heap.size]? = some (.cells (adC a).toArray 24 (0, 0)) := heap_alloc_last w _
  have hb1 : Below w.heap.size w (w.alloc (.cells (adC a).toArray 24)) := up_alloc (Below.refl _ w) _
  have hP : ∀ wr, Below (w.alloc (.cells (adC a).toArray 24)).heap.size (w.alloc (.cells (adC a).toArray 24)) wr → ∀ (j : Nat) (u : Value), (adC a)[j]? = some u → wr.cell? ⟨w.heap.size, j, none⟩ = some u := fun wr hb => by
    have h := (hb.block w.heap.size (by simp)).trans hat
    exact fun j u hu => by rw [cell_of_row wr _ _ _ _ _ h, List.getElem?_toArray]; exact hu
  have hgood := fun w => adGood_any a w ha
  have hbytes := fun w => adBytes_any a w ha
  have hsz : (Tryd.prog.info? 24).map (·.size) = some (adC a).toArray.size := info_adA ha
  have hstyle := fun w => styleOf_any a.six w
  have hlen := Ad.own_many ha
  have hsh := Ad.show_long ha
  have hshow : ∀ wr v, a.good = true → Below (w.alloc (.cells (adC a).toArray 24)).heap.size (w.alloc (.cells (adC a).toArray 24)) wr → Mine wr (w.alloc (.cells (adC a).toArray 24)).heap.size 5 v (cellsB a.own) → Calls Tryd.prog 30 #[stV a.six, v] wr fun e w' => e = .returned (txt a.show) ∧ Below wr.heap.size wr w' := fun wr v hg hb hv => by
    obtain ⟨A, c, rfl, _, _, hr⟩ := hv.rd.bytes
    rw [Ad.show_good hg] at hsh ⊢
    exact show_any A c _ a.own wr _ hr (Nat.le_refl _) hlen (by split <;> omega) (by split <;> omega) (by omega) ((hV.up hb1).up hb)
  have hno : a.good = false → txt a.show = .string ⟨#[]⟩ := fun h => by rw [Ad.show, if_neg (by rw [h]; simp)]; rfl
  rw [adV] at hgood hbytes ⊢
  rw [hsix] at hstyle hshow
  rw [hL] at *
  have Hg := Lib.hid hgood
  have Hb := Lib.hid hbytes
  have HP := Lib.hid hP
  have Hst := Lib.hid hstyle
  have Hsh := Lib.hid hshow
  have Hno := Lib.hid hno
  have HU := Lib.hid hb1
  obtain ⟨S, hS⟩ : ∃ S, S = txt a.show := ⟨_, rfl⟩
  rw [← hS] at Hsh Hno ⊢
  rw [stV] at Hst Hsh
  generalize (stC six).toArray = Y at Hst Hsh
  obtain ⟨g, hg⟩ : ∃ x, x = a.good := ⟨_, rfl⟩
  rw [← hg] at Hsh Hno Hg
  obtain ⟨o, ho⟩ : ∃ C, C = cellsB a.own := ⟨_, rfl⟩
  rw [← ho] at Hb Hsh
  clear hgood hbytes hP hstyle hshow hno hS hsix hg ho hb1 hlen hsh hV ha hL hA a
  cases g
  · go_enter Tryd.func20, Tryd.ntmps20
    go_wp2_with (first
      | ((with_reducible refine wpList_load_row (o := ⟨some 3, .load 24 (.tmp 1), _, _, _, _⟩) rfl 24 (.tmp 1) rfl w.heap.size ?_ 24 #[.bool six, .int .u8 (x0.toNat : Int), .int .u8 (x1.toNat : Int), .int .u8 (x2.toNat : Int), .int .u8 (x3.toNat : Int), .int .u8 (x4.toNat : Int), .int .u8 (x5.toNat : Int), .int .u8 (x6.toNat : Int), .int .u8 (x7.toNat : Int), .int .u8 (x8.toNat : Int), .int .u8 (x9.toNat : Int), .int .u8 (x10.toNat : Int), .int .u8 (x11.toNat : Int), .int .u8 (x12.toNat : Int), .int .u8 (x13.toNat : Int), .int .u8 (x14.toNat : Int), .int .u8 (x15.toNat : Int)] (0, 0) _ hat Tryd.underlying24 rfl hsz ?_); exact rfl)
      | (go_at_call 11; refine (Hg.out _).mono ?_; rintro _ w2 ⟨rfl, hb2⟩))
    go_ret
    exact ⟨by rw [(by first | exact Hno.out rfl | exact Hno.out trivial : S = .string ⟨#[]⟩)]; rfl, up HU.out hb2⟩
  · go_enter Tryd.func20, Tryd.ntmps20
    go_wp2_with (first
      | ((with_reducible refine wpList_load_row (o := ⟨some 3, .load 24 (.tmp 1), _, _, _, _⟩) rfl 24 (.tmp 1) rfl w.heap.size ?_ 24 #[.bool six, .int .u8 (x0.toNat : Int), .int .u8 (x1.toNat : Int), .int .u8 (x2.toNat : Int), .int .u8 (x3.toNat : Int), .int .u8 (x4.toNat : Int), .int .u8 (x5.toNat : Int), .int .u8 (x6.toNat : Int), .int .u8 (x7.toNat : Int), .int .u8 (x8.toNat : Int), .int .u8 (x9.toNat : Int), .int .u8 (x10.toNat : Int), .int .u8 (x11.toNat : Int), .int .u8 (x12.toNat : Int), .int .u8 (x13.toNat : Int), .int .u8 (x14.toNat : Int), .int .u8 (x15.toNat : Int)] (0, 0) _ hat Tryd.underlying24 rfl hsz ?_); exact rfl)
      | (go_at_call 11; refine (Hg.out _).mono ?_; rintro _ w2 ⟨rfl, hb2⟩; have HQ2 := Lib.hid (HP.out w2 hb2)))
    go_region_held3 (fun w' => w'.cell? ⟨w.heap.size, 0, none⟩ = some (.bool six) ∧ w'.cell? ⟨w.heap.size, 1, none⟩ = some (.int .u8 (x0.toNat : Int)) ∧ w'.cell? ⟨w.heap.size, 2, none⟩ = some (.int .u8 (x1.toNat : Int)) ∧ w'.cell? ⟨w.heap.size, 3, none⟩ = some (.int .u8 (x2.toNat : Int)) ∧ w'.cell? ⟨w.heap.size, 4, none⟩ = some (.int .u8 (x3.toNat : Int)) ∧ w'.cell? ⟨w.heap.size, 5, none⟩ = some (.int .u8 (x4.toNat : Int)) ∧ w'.cell? ⟨w.heap.size, 6, none⟩ = some (.int .u8 (x5.toNat : Int)) ∧ w'.cell? ⟨w.heap.size, 7, none⟩ = some (.int .u8 (x6.toNat : Int)) ∧ w'.cell? ⟨w.heap.size, 8, none⟩ = some (.int .u8 (x7.toNat : Int)) ∧ w'.cell? ⟨w.heap.size, 9, none⟩ = some (.int .u8 (x8.toNat : Int)) ∧ w'.cell? ⟨w.heap.size, 10, none⟩ = some (.int .u8 (x9.toNat : Int)) ∧ w'.cell? ⟨w.heap.size, 11, none⟩ = some (.int .u8 (x10.toNat : Int)) ∧ w'.cell? ⟨w.heap.size, 12, none⟩ = some (.int .u8 (x11.toNat : Int)) ∧ w'.cell? ⟨w.heap.size, 13, none⟩ = some (.int .u8 (x12.toNat : Int)) ∧ w'.cell? ⟨w.heap.size, 14, none⟩ = some (.int .u8 (x13.toNat : Int)) ∧ w'.cell? ⟨w.heap.size, 15, none⟩ = some (.int .u8 (x14.toNat : Int)) ∧ w'.cell? ⟨w.heap.size, 16, none⟩ = some (.int .u8 (x15.toNat : Int)))
      (first | exact ⟨HQ2.out 0 _ rfl, HQ2.out 1 _ rfl, HQ2.out 2 _ rfl, HQ2.out 3 _ rfl, HQ2.out 4 _ rfl, HQ2.out 5 _ rfl, HQ2.out 6 _ rfl, HQ2.out 7 _ rfl, HQ2.out 8 _ rfl, HQ2.out 9 _ rfl, HQ2.out 10 _ rfl, HQ2.out 11 _ rfl, HQ2.out 12 _ rfl, HQ2.out 13 _ rfl, HQ2.out 14 _ rfl, HQ2.out 15 _ rfl, HQ2.out 16 _ rfl⟩ | exact ⟨HQ3.out.2 0 _ rfl, HQ3.out.2 1 _ rfl, HQ3.out.2 2 _ rfl, HQ3.out.2 3 _ rfl, HQ3.out.2 4 _ rfl, HQ3.out.2 5 _ rfl, HQ3.out.2 6 _ rfl, HQ3.out.2 7 _ rfl, HQ3.out.2 8 _ rfl, HQ3.out.2 9 _ rfl, HQ3.out.2 10 _ rfl, HQ3.out.2 11 _ rfl, HQ3.out.2 12 _ rfl, HQ3.out.2 13 _ rfl, HQ3.out.2 14 _ rfl, HQ3.out.2 15 _ rfl, HQ3.out.2 16 _ rfl⟩ | exact ⟨HQ4.out.2 0 _ rfl, HQ4.out.2 1 _ rfl, HQ4.out.2 2 _ rfl, HQ4.out.2 3 _ rfl, HQ4.out.2 4 _ rfl, HQ4.out.2 5 _ rfl, HQ4.out.2 6 _ rfl, HQ4.out.2 7 _ rfl, HQ4.out.2 8 _ rfl, HQ4.out.2 9 _ rfl, HQ4.out.2 10 _ rfl, HQ4.out.2 11 _ rfl, HQ4.out.2 12 _ rfl, HQ4.out.2 13 _ rfl, HQ4.out.2 14 _ rfl, HQ4.out.2 15 _ rfl, HQ4.out.2 16 _ rfl⟩ | exact ⟨HQ5.out.2 0 _ rfl, HQ5.out.2 1 _ rfl, HQ5.out.2 2 _ rfl, HQ5.out.2 3 _ rfl, HQ5.out.2 4 _ rfl, HQ5.out.2 5 _ rfl, HQ5.out.2 6 _ rfl, HQ5.out.2 7 _ rfl, HQ5.out.2 8 _ rfl, HQ5.out.2 9 _ rfl, HQ5.out.2 10 _ rfl, HQ5.out.2 11 _ rfl, HQ5.out.2 12 _ rfl, HQ5.out.2 13 _ rfl, HQ5.out.2 14 _ rfl, HQ5.out.2 15 _ rfl, HQ5.out.2 16 _ rfl⟩)
      (first
        | (go_at_call 22; refine (Hst.out _).mono ?_; rintro _ w3 ⟨rfl, hb3⟩; have HQ3 := Lib.hid (And.intro (up (up_drew hb2) hb3) (HP.out w3 (up (up_drew hb2) hb3))); clear hb3)
        | (go_at_call 10; refine (Hb.out _).mono ?_; rintro _ w4 ⟨v, rfl, hv, hb4⟩; have HQ4 := Lib.hid (And.intro (up HQ3.out.1 hb4) (HP.out w4 (up HQ3.out.1 hb4))); have HM := Lib.hid (hv.weaken HQ3.out.1.size); clear hb4 hv)
        | (go_at_call 30; refine (Hsh.out _ _ (by first | rfl | trivial) HQ4.out.1 HM.out).mono ?_; rintro _ w5 ⟨rfl, hb5⟩; have HQ5 := Lib.hid (And.intro (up HQ4.out.1 hb5) (HP.out w5 (up HQ4.out.1 hb5))); clear hb5))
    go_wp2_with fail
    go_ret
    exact ⟨rfl, HU.out.trans (HQ5.out.1.mono HU.out.size)⟩
end Go.Proofs.YtepibdjglfaniaaDoor
