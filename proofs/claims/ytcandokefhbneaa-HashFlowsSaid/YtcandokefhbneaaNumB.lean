/-
  (XBase ahead of it: for seats whose laws use Few.) The functions of package num, by contracts: what each returns, in bytes, and that nothing that was there is changed.
-/
import Derived.Test.YtcandokefhbneaaBase
namespace Go.Proofs.Ytcandokefhbneaa
open Go.RowKit


/-- The k lowest bytes of n, the highest first. -/
def be : Nat → Nat → List UInt8
  | 0, _ => []
  | k + 1, n => be k (n / 256) ++ [UInt8.ofNat n]
theorem be_length : ∀ (k n : Nat), (be k n).length = k
  | 0, _ => rfl
  | k + 1, n => by simp [be, be_length k]
theorem be_cons : ∀ (k n : Nat), be (k + 1) n = UInt8.ofNat (n / 256 ^ k) :: be k n
  | 0, n => by simp [be]
  | k + 1, n => by
    rw [be, be_cons k (n / 256), be, Nat.div_div_eq_div_mul, ← Nat.pow_succ']
    rfl

set_option maxRecDepth 100000 in
set_option maxHeartbeats 400000 in
theorem size_yes (s : Int) (w : World) (h1 : 1 ≤ s) (h2 : s ≤ 8) : Calls Try.prog 21 #[.int .i64 s] w fun e w' => e = .returned (.bool true) ∧ w = w' := by
  go_enter Try.func21, Try.ntmps21
  go_wp2
  go_ret
  exact ⟨rfl, rfl⟩
set_option maxRecDepth 100000 in
set_option maxHeartbeats 400000 in
theorem size_no (s : Int) (w : World) (h : s < 1 ∨ 8 < s) : Calls Try.prog 21 #[.int .i64 s] w fun e w' => e = .returned (.bool false) ∧ w = w' := by
  rcases h with h | h
  · have hb : decide (1 ≤ s) = false := by simp; omega
    go_enter Try.func21, Try.ntmps21
    go_wp2
    go_ret
    exact ⟨rfl, rfl⟩
  · have hb : decide (s ≤ 8) = false := by simp; omega
    go_enter Try.func21, Try.ntmps21
    go_wp2
    go_ret
    exact ⟨rfl, rfl⟩
set_option maxRecDepth 100000 in
set_option maxHeartbeats 400000 in
theorem bytes_any (A : Option Addr) (n c : Nat) (ls : List (List UInt8)) (w : World) (B : Nat) (hr : RdAll w B (.slice A n c) ls) (hB : B ≤ w.heap.size) (hsum : ls.flatten.length ≤ 1000000000) :
    Calls Try.prog 22 #[.slice A n c] w fun e w' => ∃ v', e = .returned v' ∧ Mine w' w.heap.size 5 v' (cellsB ls.flatten) ∧ Below w.heap.size w w' := by
  obtain ⟨i, hi, hz0, hz1, hz2⟩ := info_parts info_u8
  obtain ⟨hl, hnc, hcm⟩ := hr.len
  have Hl := Lib.hid hl
  clear hl
  go_enter Try.func22, Try.ntmps22
  go_wp2_with fail
  go_loop [3, 11] (fun t i => ∃ k : Nat, k ≤ n ∧ i = .int .i64 k ∧ t = .int .i64 (upTo ls k).length) (fun _ i => n - (intOf i).toNat)
  case atStart => exact ⟨0, Nat.zero_le _, rfl, by rw [upTo_zero]; rfl⟩
  case round =>
    obtain ⟨k, hk, rfl, rfl⟩ := hrel
    by_cases hlt : k < n
    · obtain ⟨b, o, A', c', hkl, rfl, hb, hc, hp⟩ := hr.at_ hlt
      have hs := upTo_succ ls k hkl
      have hs' : (upTo ls (k+1)).length = (upTo ls k).length + ls[k].length := by rw [hs, List.length_append]
      have hle := upTo_le ls (k + 1)
      have hb1 : (upTo ls k).length + ls[k].length ≤ 1000000000 := by omega
      have Hs := Lib.hid hs'
      clear hs hs' hle
      go_wp2_with fail
      go_round
      case rel => exact ⟨k + 1, by omega, by go_num, by rw [Hs.out]; go_num⟩
      case measure => simp [intOf]; omega
    · have : k = n := by omega
      subst this
      have hle := upTo_le ls k
      by_cases hz : (upTo ls k).length = 0
      · have hz' : (((upTo ls k).length : Int) == 0) = true := by rw [hz]; rfl
        have Hz := Lib.hid hz
        clear hz
        go_wp2_with fail
        go_ret
        have hnil : cellsB ls.flatten = [] := by
          have e := upTo_all ls
          rw [← Hl.out] at e
          rw [← e, List.eq_nil_of_length_eq_zero Hz.out]; rfl
        refine ⟨_, rfl, ?_, Below.refl _ _⟩
        rw [hnil]
        exact Mine.nil _ _ _
      · have hz' : (((upTo ls k).length : Int) == 0) = false := by rw [beq_eq_false_iff_ne]; omega
        go_wp2_with (at_make; refine wpList_make_own _ rfl _ _ 23 rfl w.heap.size 5 i _ 1 Try.underlying23 hi hz0 hz1 _ _ _ (upTo ls k).length rfl rfl rfl (by rw [hz2]; omega) (by unfold maxLen; omega) (Nat.le_refl _) ?_; intro w1 hown hgr)
        have hbel : Below w.heap.size w w1 := (Below.refl _ _).grown hgr (Nat.le_refl _) (fun k h => by cases h)
        go_loopw [6, 26] (fun v i wr => ∃ j : Nat, j ≤ k ∧ i = .int .i64 j ∧ Mine wr w.heap.size 5 v (cellsB (upTo ls j)) ∧ Below w.heap.size w wr) (fun _ i _ => k - (intOf i).toNat)
        case atStart => exact ⟨0, Nat.zero_le _, rfl, by rw [upTo_zero]; exact hown, hbel⟩
        case round =>
          obtain ⟨j, hj, rfl, hown1, hbel1⟩ := hrel
          by_cases hlt : j < k
          · obtain ⟨b, o, A', c', hkl, rfl, hb, hc, hp⟩ := (hr.below (hbel1.mono hB)).at_ hlt
            have hs := upTo_succ ls j hkl
            have hs' : (upTo ls (j+1)).length = (upTo ls j).length + ls[j].length := by rw [hs, List.length_append]
            have hle := upTo_le ls (j + 1)
            have hb1 : (upTo ls j).length + ls[j].length ≤ 1000000000 := by omega
            have Hs := Lib.hid hs
            clear hs hs' hle
            have hsz := hbel1.size
            go_wp2_with (at_builtin; refine wpList_append_rd rfl _ _ 23 rfl w.heap.size 5 i _ 1 Try.underlying23 hi hz0 hz1 hz2 rfl _ _ rfl hown1 B _ _ rfl hp (cellsB_one _) (by rw [cellsB_length, cellsB_length]; omega) (by unfold maxLen; rw [cellsB_length, cellsB_length]; omega) (by omega) ?_; intro v' w2 hown2 hbel2 _ _)
            go_roundw
            case rel => exact ⟨j + 1, by omega, by go_num, by rw [Hs.out, cellsB_append]; exact hown2, hbel1.trans hbel2⟩
            case measure => simp [intOf]; omega
          · have : j = k := by omega
            subst this
            go_wp2_with fail
            go_ret
            refine ⟨_, rfl, ?_, hbel1⟩
            have e := upTo_all ls
            rw [← Hl.out] at e
            rw [← e]
            exact hown1

/-- Bytes of one part. -/
theorem bytes_one (a : Value) (l : List UInt8) (e : TypeId) (w : World) (B : Nat) (hr : Rd w B a (cellsB l)) (hB : B ≤ w.heap.size) (hl : l.length ≤ 1000000000) :
    Calls Try.prog 22 #[.slice (some ⟨w.heap.size, 0, none⟩) 1 1] (w.alloc (.cells #[a] e)) fun e w' => ∃ v', e = .returned v' ∧ Mine w' w.heap.size 5 v' (cellsB l) ∧ Below w.heap.size w w' := by
  refine (bytes_any _ 1 1 [l] _ (w.heap.size + 1) (RdAll.lit1 w e a l (hr.more hB)) (by simp) (by simpa using hl)).mono ?_
  rintro e w' ⟨v', rfl, h1, h2⟩
  refine ⟨v', rfl, ?_, ((Below.refl _ _).alloc (Nat.le_refl _) _).trans (h2.mono (by simp))⟩
  have := h1.weaken (base' := w.heap.size) (by simp)
  simpa using this
/-- Bytes of two parts. -/
theorem bytes_two (a b : Value) (l m : List UInt8) (e : TypeId) (w : World) (B : Nat) (hr : Rd w B a (cellsB l)) (hr2 : Rd w B b (cellsB m)) (hB : B ≤ w.heap.size) (hl : l.length + m.length ≤ 1000000000) :
    Calls Try.prog 22 #[.slice (some ⟨w.heap.size, 0, none⟩) 2 2] (w.alloc (.cells #[a, b] e)) fun e w' => ∃ v', e = .returned v' ∧ Mine w' w.heap.size 5 v' (cellsB (l ++ m)) ∧ Below w.heap.size w w' := by
  refine (bytes_any _ 2 2 [l, m] _ (w.heap.size + 1) (RdAll.lit2 w e a b l m (hr.more hB) (hr2.more hB)) (by simp) (by simpa using hl)).mono ?_
  rintro e w' ⟨v', rfl, h1, h2⟩
  refine ⟨v', rfl, ?_, ((Below.refl _ _).alloc (Nat.le_refl _) _).trans (h2.mono (by simp))⟩
  have := h1.weaken (base' := w.heap.size) (by simp)
  simpa using this

theorem low_zero (size n : Nat) : (madeCells (Value.int IntKind.u8 0).cells (size * 1)).toList = cellsB (List.replicate (size - 0) 0 ++ be 0 n) := by
  have e : (Value.int IntKind.u8 0).cells = #[Value.int IntKind.u8 0] := rfl
  rw [e, Nat.mul_one, toList_madeCells_one]
  simp [cellsB, be]
theorem set_at {α : Type} (m : Nat) (a x : α) (r : List α) : (List.replicate (m + 1) a ++ r).set m x = List.replicate m a ++ x :: r := by
  rw [List.replicate_succ', List.append_assoc, List.set_append_right _ _ (by simp)]
  simp
theorem byte_mod (q : Nat) : Value.int .u8 ((q : Int) % 256) = Value.int .u8 ((UInt8.ofNat q).toNat : Int) := by
  simp
theorem low_set (size j n q m : Nat) (hm : (size : Int) - j - 1 = (m : Int)) (hq : q = n / 256 ^ j) :
    (cellsB (List.replicate (size - j) 0 ++ be j n)).set m (.int .u8 ((q : Int) % 256)) = cellsB (List.replicate (size - (j + 1)) 0 ++ be (j + 1) n) := by
  have e1 : size - j = m + 1 := by omega
  have e2 : size - (j + 1) = m := by omega
  rw [e1, e2, be_cons, ← hq, byte_mod, ← set_at m 0 (UInt8.ofNat q) (be j n)]
  unfold cellsB
  rw [List.map_set]
theorem low_at (size j n m : Nat) (hm : (size : Int) - j - 1 = (m : Int)) : (cellsB (List.replicate (size - j) 0 ++ be j n))[m]? = some (.int .u8 0) := by
  have e1 : size - j = m + 1 := by omega
  rw [e1, cellsB_at _ _ (by simp; omega), List.getElem_append_left (by simp)]
  simp

set_option maxRecDepth 100000 in
set_option maxHeartbeats 400000 in
theorem put_yes (A : Option Addr) (c : Nat) (l : List UInt8) (n size : Nat) (w : World) (B : Nat) (hr : Rd w B (.slice A l.length c) (cellsB l)) (hB : B ≤ w.heap.size) (hl : l.length ≤ 100000000)
   (h1 : 1 ≤ size) (h2 : size ≤ 8) :
    Calls Try.prog 17 #[.slice A l.length c, .int .u64 n, .int .i64 size] w fun e w' => ∃ v', e = .returned v' ∧ Mine w' w.heap.size 5 v' (cellsB (l ++ be size n)) ∧ Below w.heap.size w w' := by
  obtain ⟨i, hi, hz0, hz1, hz2⟩ := info_parts info_u8
  go_enter Try.func17, Try.ntmps17
  go_wp2_with (first | (go_at_call 21; refine (size_yes _ _ (by omega) (by omega)).mono ?_; rintro e w' ⟨rfl, rfl⟩) | (at_make; refine wpList_make_full _ rfl _ _ 23 rfl w.heap.size 5 i _ 1 Try.underlying23 hi hz0 hz1 _ _ _ _ size rfl rfl rfl rfl (by rw [hz2]; omega) (by unfold maxLen; omega) (Nat.le_refl _) ?_; intro w1 hown hgr))
  have hbel : Below w.heap.size w w1 := (Below.refl _ _).grown hgr (Nat.le_refl _) (fun k h => by cases h)
  have hg : w.heap.size < w1.heap.size := (World.ownsRow.lt hown _ rfl).2
  obtain ⟨g, hge⟩ : ∃ g, g = w.heap.size := ⟨_, rfl⟩
  rw [← hge] at hown hg hbel hB ⊢
  have Hge := Lib.hid hge
  clear hge hgr
  go_loopw [1, 8] (fun nv iv wr => ∃ j q : Nat, j ≤ size ∧ iv = .int .i64 ((size : Int) - j - 1) ∧ nv = .int .u64 (q : Int) ∧ q = n / 256 ^ j ∧ Mine wr g 5 (.slice (some ⟨g, 0, none⟩) size size) (cellsB (List.replicate (size - j) 0 ++ be j n)) ∧ Below g w wr) (fun _ i _ => (intOf i + 1).toNat)
  case atStart =>
    refine ⟨0, n, Nat.zero_le _, by simp, by simp, by simp, ?_, hbel⟩
    rw [low_zero size n] at hown
    exact Mine.of_own hown
  case round =>
    obtain ⟨j, q, hj, rfl, rfl, hq, hown1, hbel1⟩ := hrel
    have Hq := Lib.hid hq
    clear hq
    by_cases hlt : j < size
    · obtain ⟨m, hm⟩ : ∃ m : Nat, ((size:Int) - j - 1) = (m : Int) := ⟨size - j - 1, by omega⟩
      have hms : m < size := by omega
      rw [hm]
      have hce : wr.cell? ⟨g, m, none⟩ = some (.int .u8 0) := hown1.cellAt (low_at size j n m hm)
      have hfr : wr.frozen? ⟨g, m, none⟩ = false := hown1.free m
      have Hm := Lib.hid hm
      clear hm
      go_wp2_with fail
      go_roundw
      case rel =>
        refine ⟨j + 1, q / 256, by omega, ?_, ?_, ?_, ?_, ?_⟩
        · have := Hm.out; go_num
        · go_num
        · rw [Hq.out, Nat.div_div_eq_div_mul, Nat.pow_succ]
        · rw [← low_set size j n q m Hm.out Hq.out]
          exact hown1.stored m _
        · exact hbel1.setCell (Nat.le_refl _) _
      case measure => simp [intOf]
    · have : j = size := by omega
      subst this
      rw [Nat.sub_self] at hown1
      have hs := hbel1.size
      have hlt2 := hown1.lt
      go_wp2_with (go_at_call 22; refine (bytes_two _ _ l (be j n) _ _ wr.heap.size ((hr.below (hbel1.mono hB)).more (by omega)) hown1.rd (Nat.le_refl _) (by rw [be_length]; omega)).mono ?_; rintro e w' ⟨v', rfl, hown2, hbel2⟩)
      go_ret
      refine ⟨v', rfl, ?_, ?_⟩
      · exact hown2.weaken hs
      · rw [← Hge.out]
        exact hbel1.trans (hbel2.mono (by omega))

set_option maxRecDepth 100000 in
set_option maxHeartbeats 400000 in
theorem put_no (A : Option Addr) (c : Nat) (l : List UInt8) (n s : Int) (w : World) (B : Nat) (hr : Rd w B (.slice A l.length c) (cellsB l)) (hB : B ≤ w.heap.size) (hl : l.length ≤ 100000000)
   (h : s < 1 ∨ 8 < s) :
    Calls Try.prog 17 #[.slice A l.length c, .int .u64 n, .int .i64 s] w fun e w' => ∃ v', e = .returned v' ∧ Mine w' w.heap.size 5 v' (cellsB l) ∧ Below w.heap.size w w' := by
  have hno := fun W => size_no s W h
  have Hno := Lib.hid hno
  clear hno h
  go_enter Try.func17, Try.ntmps17
  go_wp2_with (first | (go_at_call 21; refine (Hno.out _).mono ?_; rintro e w' ⟨rfl, rfl⟩) | (go_at_call 22; refine (bytes_one _ l _ w B hr hB (by omega)).mono ?_; rintro e w' ⟨v', rfl, hown2, hbel2⟩))
  go_ret
  exact ⟨v', rfl, hown2, hbel2⟩

/-- The number that bytes say, the highest first. -/
def ofBe : List UInt8 → Nat → Nat
  | [], n => n
  | b :: l, n => ofBe l (n * 256 + b.toNat)
theorem ofBe_snoc : ∀ (l : List UInt8) (x : UInt8) (n : Nat), ofBe (l ++ [x]) n = ofBe l n * 256 + x.toNat
  | [], _, _ => rfl
  | b :: l, x, n => ofBe_snoc l x (n * 256 + b.toNat)
theorem ofBe_lt : ∀ (l : List UInt8) (n m : Nat), n < 256 ^ m → ofBe l n < 256 ^ (m + l.length)
  | [], _, _, h => h
  | b :: l, n, m, h => by
    have hb := b.toNat_lt
    have h1 : n * 256 + b.toNat < 256 ^ (m + 1) := by rw [Nat.pow_succ]; omega
    have := ofBe_lt l _ (m + 1) h1
    rw [List.length_cons, show m + (l.length + 1) = m + 1 + l.length from by omega]
    exact this
theorem ofBe_small (l : List UInt8) (h : l.length ≤ 8) : ofBe l 0 < 18446744073709551616 := by
  have h1 := ofBe_lt l 0 0 (by decide)
  have h2 : 256 ^ (0 + l.length) ≤ 256 ^ 8 := Nat.pow_le_pow_right (by decide) (by omega)
  have h3 : (256 : Nat) ^ 8 = 18446744073709551616 := by decide
  omega
theorem ofBe_less (l : List UInt8) (h : l.length ≤ 7) : ofBe l 0 < 72057594037927936 := by
  have h1 := ofBe_lt l 0 0 (by decide)
  have h2 : 256 ^ (0 + l.length) ≤ 256 ^ 7 := Nat.pow_le_pow_right (by decide) (by omega)
  have h3 : (256 : Nat) ^ 7 = 72057594037927936 := by decide
  omega
/-- One more byte, by a shift and an or. -/
theorem or_step (q x : Nat) (hq : q < 72057594037927936) (hx : x < 256) : bits BinOp.or IntKind.u64 (IntKind.u64.wrap ((q : Int) * 256)) (x : Int) = ((q * 256 + x : Nat) : Int) := by
  have e : IntKind.u64.wrap ((q : Int) * 256) = ((q * 256 : Nat) : Int) := by
    rw [IntWalk.u64_in _ (by omega)]; simp
  rw [e, u64_or_nat _ _ (by omega) (by omega)]
  have h := Nat.two_pow_add_eq_or_of_lt (i := 8) (b := x) (by omega) q
  rw [Nat.mul_comm q 256]
  exact congrArg _ h.symm
/-- One more byte, by a product and a sum. -/
theorem sum_step (q x : Nat) (hq : q < 72057594037927936) (hx : x < 256) : IntKind.u64.wrap (IntKind.u64.wrap ((q : Int) * 256) + (x : Int)) = ((q * 256 + x : Nat) : Int) := by
  rw [IntWalk.u64_in ((q : Int) * 256) (by omega), IntWalk.u64_in _ (by omega)]; simp
/-- The bytes of a part, one more. -/
theorem seg_succ (l : List UInt8) (a s k : Nat) (h : k < s) (h2 : a + s ≤ l.length) : ((l.drop a).take s).take (k + 1) = ((l.drop a).take s).take k ++ [l[a + k]'(by omega)] := by
  have hk : k < ((l.drop a).take s).length := by simp; omega
  rw [List.take_succ_eq_append_getElem hk]
  simp
theorem seg_len (l : List UInt8) (a s k : Nat) : (((l.drop a).take s).take k).length ≤ k := by simp; omega

/-- There and back. -/
theorem ofBe_be : ∀ (k n m : Nat), ofBe (be k n) m = m * 256 ^ k + n % 256 ^ k
  | 0, n, m => by simp [be, ofBe, Nat.mod_one]
  | k + 1, n, m => by
    have e : n % 256 ^ (k + 1) = n % 256 + 256 * (n / 256 % 256 ^ k) := by rw [Nat.pow_succ', Nat.mod_mul]
    have e2 : (UInt8.ofNat n).toNat = n % 256 := UInt8.toNat_ofNat'
    rw [be, ofBe_snoc, ofBe_be k (n / 256) m, e, e2, Nat.pow_succ, Nat.add_mul, ← Nat.mul_assoc]
    omega
end Go.Proofs.Ytcandokefhbneaa
