/-
  The document's text of an address: a contract.
-/
import Derived.Test.YtepibdjglfaniaaDoorAdW
import Derived.Test.YtepibdjglfaniaaDoorAdR
namespace Go.Proofs.YtepibdjglfaniaaDoor
open Go.RowKit
theorem bytes_app (l r : List UInt8) : (⟨l.toArray⟩ : ByteArray) ++ ⟨r.toArray⟩ = ⟨(l ++ r).toArray⟩ := by
  apply Go.WideShapes.bytes_inj
  rw [ByteArray.data_append]
  simp
theorem trail_short {c : UInt8} {ls : List (List UInt8)} (h : ∀ l ∈ ls, l.length ≤ 5) (k : Nat) : (trail c ls k).length ≤ k * 6 := by
  induction k generalizing ls with
  | zero => simp [trail]
  | succ k ih =>
    cases ls with
    | nil => simp [trail]
    | cons x r =>
      have := ih (ls := r) fun l hl => h l (List.mem_cons_of_mem _ hl)
      have hx := h x (List.mem_cons_self ..)
      simp only [trail, List.take_succ_cons, List.flatMap_cons, List.length_append, List.length_cons, List.length_nil] at this ⊢
      omega
theorem digs_five {base n : Nat} (h2 : 2 ≤ base) (hn : n < 65536) (h10 : 10 ≤ base) : (digs base n).length ≤ 5 := digs_short h2 5 n (by omega) (Nat.lt_of_lt_of_le (by omega : n < 10 ^ 5) (Nat.pow_le_pow_left h10 5))
theorem showT_five (a : Ad) : ∀ l ∈ showT a, l.length ≤ 5 := by
  intro l hl
  rw [showT, List.mem_map] at hl
  obtain ⟨n, hn, rfl⟩ := hl
  have := nums_lt hn
  have hp : 256 ^ siz a.six ≤ 65536 := by cases a.six <;> decide
  exact digs_five (by cases a.six <;> decide) (by omega) (by cases a.six <;> decide)
/-- What is written behind k numbers. -/
def accB (a : Ad) (m k : Nat) : ByteArray := ⟨(if k < m then trail (mrk a.six) (showT a) k else shown a.six a.own).toArray⟩
theorem accB_step {a : Ad} {m k : Nat} {x : List UInt8} (hm : (showT a).length = m) (hk : k < m) (h : (showT a)[k]? = some x) :
    accB a m (k + 1) = if k + 1 < m then accB a m k ++ ⟨x.toArray⟩ ++ ⟨#[mrk a.six]⟩ else accB a m k ++ ⟨x.toArray⟩ := by
  rw [accB, accB, if_pos hk]
  by_cases h1 : k + 1 < m
  · rw [if_pos h1, if_pos h1, bytes_app, trail_succ h]
    exact (bytes_app _ [mrk a.six]).symm
  · rw [if_neg h1, if_neg h1, bytes_app, trail_join _ k x (by omega) h, showT_join]
theorem accB_size {a : Ad} {m k : Nat} (hm : m ≤ 8) (hk : k < m) : (accB a m k).size ≤ 48 := by
  rw [accB, if_pos hk]
  have := trail_short (c := mrk a.six) (showT_five a) k
  simp [ByteArray.size]
  omega
set_option maxRecDepth 100000 in
theorem rfShow_four (a : Ad) (w : World) (ha : a.Wide) (hg : a.good = true) (hs : a.six = false) : Calls Tryd.prog 25 #[adV a] w fun e w' => e = .returned (txt a.show) ∧ Below w.heap.size w w' := by
  have hl : a.b.length = 16 := ha
  have hm4 : (showT a).length = 4 := by rw [showT_length ha, hs]; rfl
  obtain ⟨w1, hw1⟩ : ∃ w1, w1 = w.alloc (.cells (adC a).toArray 24) := ⟨_, rfl⟩
  have hat : w1.heap[w.heap.size]? = some (.cells (adC a).toArray 24 (0, 0)) := by rw [hw1]; exact heap_alloc_last w _
  have hb1 : Below w.heap.size w w1 := by rw [hw1]; exact up_alloc (Below.refl _ w) _
  have hlt : w.heap.size < w1.heap.size := by rw [hw1]; simp
  have h6 : ∀ wr, Below w1.heap.size w1 wr → wr.cell? ⟨w.heap.size, 0, none⟩ = some (.bool false) := fun wr hb => by
    have := adC_six ((hb.block w.heap.size hlt).trans hat)
    rwa [hs] at this
  obtain ⟨X, hX⟩ : ∃ X : Nat → UInt8, ∀ j, 12 ≤ j → j < 16 → a.b[j]? = some (X j) ∧ (showT a)[j - 12]? = some (digs 10 (X j).toNat) := by
    refine ⟨fun j => a.b.getD j 0, fun j h1 h2 => ?_⟩
    obtain ⟨x, e1, e2⟩ := showT_four ha hs (k := j - 12) (by omega)
    rw [show 12 + (j - 12) = j by omega] at e1
    have : a.b.getD j 0 = x := by rw [List.getD_eq_getElem?_getD, e1]; rfl
    dsimp only
    rw [this]
    exact ⟨e1, e2⟩
  have HP : Hid (∀ wr, Below w1.heap.size w1 wr → ∀ j, 12 ≤ j → j < 16 → wr.cell? ⟨w.heap.size, 1 + j, none⟩ = some (.int .u8 ((X j).toNat : Int))) := Lib.hid fun wr hb j h1 h2 => by
    refine adC_range ((hb.block w.heap.size hlt).trans hat) j _ ?_
    rw [cellsB, List.getElem?_map, (hX j h1 h2).1]; rfl
  have H6 := Lib.hid h6
  have HU : Hid (∀ wr, Below w1.heap.size w1 wr → Below w.heap.size w wr) := Lib.hid fun wr hb => up hb1 hb
  have HG : Hid (∀ w, Calls Tryd.prog 7 #[adV a] w fun e w' => e = .returned (.bool true) ∧ Below w.heap.size w w') := Lib.hid fun w => by rw [← hg]; exact rfGood_any a w ha
  obtain ⟨D, hD⟩ : ∃ D : Nat → ByteArray, D = fun j => ⟨(digs 10 (X j).toNat).toArray⟩ := ⟨_, rfl⟩
  obtain ⟨AK, hAK⟩ : ∃ AK : Nat → ByteArray, AK = fun j => accB a 4 (j - 12) := ⟨_, rfl⟩
  have HN : Hid (∀ w j, Calls Tryd.prog 35 #[.int .i64 ((X j).toNat : Int), .int .i64 10] w fun e w' => e = .returned (.string (D j)) ∧ Below w.heap.size w w') := Lib.hid fun w j => by
    rw [hD]; exact rfNum_any (base := 10) (Or.inl rfl) (X j).toNat (by have := (X j).toNat_lt; omega) w
  have HS : Hid (∀ j, 12 ≤ j → j < 16 → AK (j + 1) = (if j < 15 then AK j ++ D j ++ ⟨#[46]⟩ else AK j ++ D j) ∧ (AK j).size ≤ 48 ∧ (D j).size ≤ 5) := Lib.hid fun j h1 h2 => by
    have h := accB_step hm4 (show j - 12 < 4 by omega) (hX j h1 h2).2
    rw [hAK, hD]
    dsimp only
    refine ⟨?_, accB_size (by omega) (by omega), ?_⟩
    · rw [show j + 1 - 12 = j - 12 + 1 by omega, h, hs]
      by_cases hj : j < 15
      · rw [if_pos (by omega), if_pos hj]; rfl
      · rw [if_neg (by omega), if_neg hj]
    · have := digs_five (base := 10) (n := (X j).toNat) (by omega) (by have := (X j).toNat_lt; omega) (by omega)
      simpa [ByteArray.size] using this
  have H0 : Hid (AK 12 = ⟨#[]⟩) := Lib.hid (by rw [hAK]; simp [accB, trail])
  have HE : Hid (txt a.show = .string (AK 16)) := Lib.hid (by rw [hAK, Ad.show_good hg, txt]; rfl)
  have hsz := info_adA ha
  obtain ⟨S, hSd⟩ : ∃ S, S = txt a.show := ⟨_, rfl⟩
  rw [← hSd] at HE ⊢
  rw [adV] at HG ⊢
  generalize (adC a).toArray = C at *
  clear hX hD hAK h6 hb1 hlt hm4 hl hg hs ha hSd
  subst hw1
  go_enter Tryd.func25, Tryd.ntmps25
  go_wp2_with (first
    | ((with_reducible refine wpList_load_row (o := ⟨some 6, .load 24 (.tmp 1), _, _, _, _⟩) rfl 24 (.tmp 1) rfl w.heap.size ?_ 24 C (0, 0) _ hat Tryd.underlying24 rfl hsz ?_); exact rfl)
    | (go_at_call 7; refine (HG.out _).mono ?_; rintro _ w2 ⟨rfl, hb2⟩; have HB2 := Lib.hid hb2; clear hb2))
  go_loopw [3, 4] (fun sv iv wr => ∃ (j : Nat), 12 ≤ j ∧ j ≤ 16 ∧ iv = .int .i64 (j : Int) ∧ sv = .string (AK j) ∧ Below (w.alloc (.cells C 24)).heap.size (w.alloc (.cells C 24)) wr) (fun _ iv _ => 16 - (intOf iv).toNat)
  case atStart => exact ⟨12, by omega, by omega, rfl, by rw [H0.out], HB2.out⟩
  case round =>
    obtain ⟨j, hj12, hj16, rfl, rfl, hbel⟩ := hrel
    have hc0 := H6.out wr hbel
    by_cases hj : j < 16
    · have hcx := HP.out wr hbel j hj12 hj
      obtain ⟨hstep, hsA, hsD⟩ := HS.out j hj12 hj
      have hNj : ∀ w, Calls Tryd.prog 35 #[.int .i64 ((X j).toNat : Int), .int .i64 10] w fun e w' => e = .returned (.string (D j)) ∧ Below w.heap.size w w' := fun w => HN.out w j
      obtain ⟨x, hx⟩ : ∃ x, x = (X j).toNat := ⟨_, rfl⟩
      obtain ⟨d, hd⟩ : ∃ d, d = D j := ⟨_, rfl⟩
      obtain ⟨t, ht⟩ : ∃ t, t = AK j := ⟨_, rfl⟩
      rw [← hx] at hcx hNj
      rw [← hd] at hNj hstep hsD
      rw [← ht] at hstep hsA ⊢
      have HNj := Lib.hid hNj
      have hx8 : (x : Int) ≤ 255 := by have := (X j).toNat_lt; omega
      have hsum : ¬ 9223372036854775807 < t.size + d.size := by omega
      have hsum2 : ¬ 9223372036854775807 < (t ++ d).size + 1 := by rw [ByteArray.size_append]; omega
      clear hNj hx hd ht
      have hji : (j : Int) < 16 := by omega
      have hj0 : (0 : Int) ≤ (j : Int) := by omega
      by_cases h15 : j < 15
      · rw [if_pos h15] at hstep
        have HT := Lib.hid hstep
        have t1 : (j : Int) < 15 := by omega
        clear hstep
        go_wp2_with (first
          | (go_at_call 35; refine (HNj.out _).mono ?_; rintro _ w3 ⟨rfl, hb3⟩))
        go_roundw
        case rel => exact ⟨j + 1, by omega, by omega, by go_num, by rw [HT.out], up hbel hb3⟩
        case measure => simp [intOf]; omega
      · rw [if_neg h15] at hstep
        have HT := Lib.hid hstep
        have t1 : ¬ (j : Int) < 15 := by omega
        clear hstep
        go_wp2_with (first
          | (go_at_call 35; refine (HNj.out _).mono ?_; rintro _ w3 ⟨rfl, hb3⟩))
        go_roundw
        case rel => exact ⟨j + 1, by omega, by omega, by go_num, by rw [HT.out], up hbel hb3⟩
        case measure => simp [intOf]; omega
    · obtain rfl : j = 16 := by omega
      go_wp2_with fail
      go_loopw [3, 5] (fun sv iv w4 => iv = .int .i64 0 ∧ sv = .string (AK 16) ∧ w4 = wr) (fun _ _ _ => 0)
      case atStart => exact ⟨rfl, rfl, rfl⟩
      case round =>
        obtain ⟨rfl, rfl, rfl⟩ := hrel
        go_wp2_with fail
        go_ret
        exact ⟨by rw [HE.out]; rfl, HU.out _ hbel⟩
set_option maxRecDepth 100000 in
theorem rfShow_bad (a : Ad) (w : World) (ha : a.Wide) (hg : a.good = false) : Calls Tryd.prog 25 #[adV a] w fun e w' => e = .returned (txt a.show) ∧ Below w.heap.size w w' := by
  have hat := heap_alloc_last w (.cells (adC a).toArray 24)
  have hb1 := up_alloc (Below.refl w.heap.size w) (.cells (adC a).toArray 24)
  have HG : Hid (∀ w, Calls Tryd.prog 7 #[adV a] w fun e w' => e = .returned (.bool false) ∧ Below w.heap.size w w') := Lib.hid fun w => by rw [← hg]; exact rfGood_any a w ha
  have hS : txt a.show = .string ⟨#[]⟩ := by rw [Ad.show, if_neg (by rw [hg]; simp)]; rfl
  have hsz := info_adA ha
  have HB := Lib.hid hb1
  rw [hS]
  rw [adV] at HG ⊢
  generalize (adC a).toArray = C at *
  clear hS hg ha hb1
  go_enter Tryd.func25, Tryd.ntmps25
  go_wp2_with (first
    | ((with_reducible refine wpList_load_row (o := ⟨some 6, .load 24 (.tmp 1), _, _, _, _⟩) rfl 24 (.tmp 1) rfl w.heap.size ?_ 24 C (0, 0) _ hat Tryd.underlying24 rfl hsz ?_); exact rfl)
    | (go_at_call 7; refine (HG.out _).mono ?_; rintro _ w2 ⟨rfl, hb2⟩))
  go_ret
  exact ⟨rfl, up HB.out hb2⟩
end Go.Proofs.YtepibdjglfaniaaDoor
