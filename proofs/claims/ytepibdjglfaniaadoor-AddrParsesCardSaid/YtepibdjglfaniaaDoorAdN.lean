/-
  The bytes of the numbers that a text says: a contract (style.read).
-/
import Derived.Test.YtepibdjglfaniaaDoorAdL
import Derived.Lib.SplitLaws
namespace Go.Proofs.YtepibdjglfaniaaDoor
open Go.RowKit
theorem readL_snoc (six : Bool) (x : List UInt8) : ∀ l : List (List UInt8), readL six (l ++ [x]) = (readL six l).bind fun a => (readN six x).map fun n => a ++ be (siz six) n
  | [] => by
    simp only [List.nil_append, readL]
    cases readN six x <;> simp
  | p :: r => by
    simp only [List.cons_append, readL]
    cases readN six p with
    | none => rfl
    | some n =>
      simp only
      rw [readL_snoc six x r]
      cases readL six r with
      | none => rfl
      | some a => cases readN six x <;> simp
theorem readL_none {six : Bool} {x : List UInt8} (hx : readN six x = none) : ∀ {l : List (List UInt8)}, x ∈ l → readL six l = none
  | p :: r, h => by
    simp only [readL]
    rcases List.mem_cons.1 h with rfl | h
    · rw [hx]
    · cases readN six p with
      | none => rfl
      | some n => simp only [readL_none hx h, Option.map_none]
theorem splitK_le (sep : List UInt8) : ∀ (k : Nat) (s p : List UInt8), p ∈ Lib.splitK sep 0 k s → p.length ≤ s.length
  | 0, s, p, h => by
    simp only [Lib.splitK, List.mem_singleton] at h
    rw [h]; exact Nat.le_refl _
  | k + 1, s, p, h => by
    simp only [Lib.splitK] at h
    split at h
    · simp only [List.mem_singleton] at h
      rw [h]; exact Nat.le_refl _
    · rcases List.mem_cons.1 h with rfl | h
      · rw [List.length_take]; omega
      · have := splitK_le sep k _ p h
        rw [List.length_drop] at this
        omega
theorem splitK_count (sep : List UInt8) : ∀ (k : Nat) (s : List UInt8), (Lib.splitK sep 0 k s).length ≤ k + 1
  | 0, s => by simp [Lib.splitK]
  | k + 1, s => by
    simp only [Lib.splitK]
    split
    · simp
    · rw [List.length_cons]
      have := splitK_count sep k (s.drop ((Lib.index s sep).toNat + sep.length))
      omega
/-- strings.Split at one byte. -/
theorem split_any (s : List UInt8) (c : UInt8) (w : World) (hs : s.length ≤ 1000) (hV : Vars w) :
    (Lib.split s [c]).length ≤ s.length + 1 ∧ (∀ p ∈ Lib.split s [c], p.length ≤ s.length) ∧
    Calls Tryd.prog 32 #[.string ⟨s.toArray⟩, .string ⟨#[c]⟩] w fun e w' => e = .returned (.slice (some ⟨w.heap.size, 0, none⟩) (Lib.split s [c]).length (Lib.split s [c]).length) ∧ w' = w.alloc (.cells (cellsT (Lib.split s [c])).toArray 9) := by
  have hsz : (⟨s.toArray⟩ : ByteArray).size = s.length := by simp [ByteArray.size]
  have h1 : 1 ≤ (⟨#[c]⟩ : ByteArray).size := by simp [ByteArray.size]
  obtain ⟨m, hm⟩ := hV.len
  have h := Tryd.strings_Split ⟨s.toArray⟩ ⟨#[c]⟩ m w (by rw [hsz]; omega) hm h1
  have hcount : Lib.countB (⟨s.toArray⟩ : ByteArray) ⟨#[c]⟩ = Lib.count s [c] := rfl
  have hall := Lib.splitB_all (⟨#[c]⟩ : ByteArray) h1 0 _ (⟨s.toArray⟩ : ByteArray) rfl
  have hdata := Lib.splitB_data (⟨#[c]⟩ : ByteArray) 0 (Lib.countB (⟨s.toArray⟩ : ByteArray) ⟨#[c]⟩) (⟨s.toArray⟩ : ByteArray)
  have hd2 : (Lib.splitB (⟨#[c]⟩ : ByteArray) 0 (Lib.countB (⟨s.toArray⟩ : ByteArray) ⟨#[c]⟩) (⟨s.toArray⟩ : ByteArray)).map (·.data.toList) = Lib.split s [c] := hdata
  have hlen : (Lib.split s [c]).length = Lib.countB (⟨s.toArray⟩ : ByteArray) ⟨#[c]⟩ + 1 := by rw [← hd2, List.length_map, hall]
  have hc : (Lib.splitB (⟨#[c]⟩ : ByteArray) 0 (Lib.countB (⟨s.toArray⟩ : ByteArray) ⟨#[c]⟩) (⟨s.toArray⟩ : ByteArray)).map Value.string = cellsT (Lib.split s [c]) := by
    rw [← hd2, cellsT, List.map_map]
    rfl
  rw [hc, ← hlen] at h
  refine ⟨?_, fun p hp => splitK_le [c] _ s p hp, h⟩
  rw [hlen]
  have := Lib.countB_le (⟨#[c]⟩ : ByteArray) h1 s.length (⟨s.toArray⟩ : ByteArray) (by rw [hsz]; exact Nat.le_refl _)
  rw [hsz] at this
  omega
set_option maxRecDepth 100000 in
theorem read_any {six : Bool} (s : List UInt8) (w : World) (hs : s.length ≤ 1000) (hV : Vars w) :
    Calls Tryd.prog 23 #[stV six, .string ⟨s.toArray⟩] w fun e w' => ∃ v, e = .returned v ∧ Mine w' w.heap.size 5 v (cellsB (reads six s)) ∧ Below w.heap.size w w' := by
  obtain ⟨w0, hw0⟩ : ∃ w0, w0 = w.alloc (.cells (stC six).toArray 46) := ⟨_, rfl⟩
  have hb0 : Below w.heap.size w w0 := by rw [hw0]; exact up_alloc (Below.refl _ w) _
  have hsz0 : w0.heap.size = w.heap.size + 1 := by rw [hw0]; simp
  obtain ⟨hn, hle, hspl⟩ := split_any s (mrk six) w0 hs (hV.up hb0)
  obtain ⟨PS, hPS⟩ : ∃ PS, PS = Lib.split s [mrk six] := ⟨_, rfl⟩
  have hreads : reads six s = (readL six PS).getD [] := by rw [reads, hPS]
  rw [← hPS] at hn hle hspl
  obtain ⟨w1, hw1⟩ : ∃ w1, w1 = w0.alloc (.cells (cellsT PS).toArray 9) := ⟨_, rfl⟩
  have hb1 : Below w.heap.size w w1 := by rw [hw1]; exact up_alloc hb0 _
  have hsz1 : w1.heap.size = w.heap.size + 2 := by rw [hw1]; simp [hsz0]
  have hat : w1.heap[w.heap.size]? = some (.cells (stC six).toArray 46 (0, 0)) := by
    rw [hw1]
    refine (heap_alloc_old w0 _ (by omega)).trans ?_
    rw [hw0]; exact heap_alloc_last w _
  have hat1 : w1.heap[w.heap.size + 1]? = some (.cells (cellsT PS).toArray 9 (0, 0)) := by
    rw [hw1, ← hsz0]; exact heap_alloc_last w0 _
  have hN : ∀ wr, Below w1.heap.size w1 wr → wr.cell? ⟨w.heap.size, 1, none⟩ = some (.int .i64 ((siz six : Nat) : Int)) ∧ wr.cell? ⟨w.heap.size, 2, none⟩ = some (.int .i64 ((bas six : Nat) : Int)) := fun wr hb => by
    have h := (hb.block w.heap.size (by omega)).trans hat
    refine ⟨?_, ?_⟩ <;> rw [cell_of_row wr _ _ _ _ _ h] <;> simp [stC]
  have hC : ∀ wr, Below w1.heap.size w1 wr → ∀ k (hk : k < PS.length), wr.cell? ⟨w.heap.size + 1, k, none⟩ = some (.string ⟨PS[k].toArray⟩) := fun wr hb k hk => by
    have h := (hb.block (w.heap.size + 1) (by omega)).trans hat1
    rw [cell_of_row wr _ _ _ _ _ h, List.getElem?_toArray, cellsT, List.getElem?_map, List.getElem?_eq_getElem hk]; rfl
  have hP : ∀ wr, Below w1.heap.size w1 wr → ∀ k (hk : k < PS.length), Calls Tryd.prog 33 #[.string ⟨PS[k].toArray⟩, .int .i64 ((bas six : Nat) : Int), .int .i64 (8 * ((siz six : Nat) : Int))] wr fun e w' => ∃ v ev, e = .returned (.tuple #[.int .u64 ((v : Nat) : Int), ev]) ∧ ParOut six PS[k] v ev ∧ Below wr.heap.size wr w' := fun wr hb k hk => by
    have h := par_any (six := six) PS[k] (by have := hle _ (List.getElem_mem hk); omega) wr ((hV.up hb1).up hb)
    rwa [Int.natCast_mul] at h
  have hU : ∀ wr, Below w1.heap.size w1 wr → Below w.heap.size w wr := fun wr hb => up hb1 hb
  have hS : ∀ k (hk : k < PS.length) acc n, readL six (PS.take k) = some acc → readN six PS[k] = some n → readL six (PS.take (k + 1)) = some (acc ++ be (siz six) n) := fun k hk acc n h1 h2 => by
    rw [List.take_add_one, List.getElem?_eq_getElem hk, Option.toList_some, readL_snoc, h1, h2]; rfl
  have hE : ∀ k (hk : k < PS.length), readN six PS[k] = none → reads six s = [] := fun k hk h => by
    rw [hreads, readL_none h (List.getElem_mem hk)]; rfl
  have hF : ∀ acc, readL six (PS.take PS.length) = some acc → reads six s = acc := fun acc h => by
    rw [hreads, ← List.take_length (l := PS), h]; rfl
  obtain ⟨N, hNd⟩ : ∃ N, N = PS.length := ⟨_, rfl⟩
  obtain ⟨T, hT⟩ : ∃ T : Nat → ByteArray, ∀ k (hk : k < PS.length), T k = ⟨PS[k].toArray⟩ := ⟨fun k => ⟨(PS.getD k []).toArray⟩, fun k hk => by simp [hk]⟩
  obtain ⟨R, hR⟩ : ∃ R : Nat → Option Nat, ∀ k (hk : k < PS.length), R k = readN six PS[k] := ⟨fun k => readN six (PS.getD k []), fun k hk => by simp [hk]⟩
  obtain ⟨AC, hAC⟩ : ∃ AC : Nat → Option (List UInt8), AC = fun k => readL six (PS.take k) := ⟨_, rfl⟩
  have hs12 := siz_pos six
  obtain ⟨sz, hsz⟩ : ∃ s, s = siz six := ⟨_, rfl⟩
  obtain ⟨bs, hbs⟩ : ∃ s, s = bas six := ⟨_, rfl⟩
  have HN : Hid (∀ wr, Below w1.heap.size w1 wr → wr.cell? ⟨w.heap.size, 1, none⟩ = some (.int .i64 ((sz : Nat) : Int)) ∧ wr.cell? ⟨w.heap.size, 2, none⟩ = some (.int .i64 ((bs : Nat) : Int))) := Lib.hid (by rw [hsz, hbs]; exact hN)
  have HC : Hid (∀ wr, Below w1.heap.size w1 wr → ∀ k, k < N → wr.cell? ⟨w.heap.size + 1, k, none⟩ = some (.string (T k))) := Lib.hid fun wr hb k hk => by
    rw [hNd] at hk
    rw [hT k hk]
    exact hC wr hb k hk
  have HP : Hid (∀ wr, Below w1.heap.size w1 wr → ∀ k, k < N → Calls Tryd.prog 33 #[.string (T k), .int .i64 ((bs : Nat) : Int), .int .i64 (8 * ((sz : Nat) : Int))] wr fun e w' => ∃ v ev, e = .returned (.tuple #[.int .u64 ((v : Nat) : Int), ev]) ∧ ((R k = some v ∧ ev = .nilIface) ∨ (R k = none ∧ ∃ t p, ev = .iface t p)) ∧ Below wr.heap.size wr w') := Lib.hid fun wr hb k hk => by
    rw [hNd] at hk
    rw [hT k hk, hR k hk, hsz, hbs]
    refine (hP wr hb k hk).mono ?_
    rintro e w' ⟨v, ev, rfl, ho, hb'⟩
    refine ⟨v, ev, rfl, ?_, hb'⟩
    unfold ParOut at ho
    split at ho
    · rename_i n hn
      exact Or.inl ⟨by rw [hn, ho.1], ho.2⟩
    · rename_i hn
      exact Or.inr ⟨hn, ho⟩
  have HS : Hid (∀ k, k < N → ∀ acc n, AC k = some acc → R k = some n → AC (k + 1) = some (acc ++ be sz n)) := Lib.hid fun k hk acc n h1 h2 => by
    rw [hNd] at hk
    rw [hR k hk] at h2
    rw [hAC] at h1 ⊢
    rw [hsz]
    exact hS k hk acc n h1 h2
  have HE : Hid (∀ k, k < N → R k = none → reads six s = []) := Lib.hid fun k hk h => by
    rw [hNd] at hk
    rw [hR k hk] at h
    exact hE k hk h
  have HF : Hid (∀ acc, AC N = some acc → reads six s = acc) := Lib.hid fun acc h => by
    rw [hAC, hNd] at h
    exact hF acc h
  have H0 : Hid (AC 0 = some []) := Lib.hid (by rw [hAC]; simp [readL])
  have HU := Lib.hid hU
  have HB := Lib.hid (Below.refl w1.heap.size w1)
  have HSp : Hid (Calls Tryd.prog 32 #[.string ⟨s.toArray⟩, .string ⟨#[mrk six]⟩] w0 fun e w' => e = .returned (.slice (some ⟨w0.heap.size, 0, none⟩) N N) ∧ w' = w1) := Lib.hid (by rw [hNd, hw1]; exact hspl)
  have c0 : w0.cell? ⟨w.heap.size, 0, none⟩ = some (.string ⟨#[mrk six]⟩) := by
    rw [hw0, cell_of_row _ _ _ _ _ _ (heap_alloc_last w _)]; simp [stC]
  rw [hw0] at c0 HSp
  have HZ : Hid (w1.heap.size = w.heap.size + 2 ∧ w0.heap.size = w.heap.size + 1 ∧ N ≤ 1001) := Lib.hid ⟨hsz1, hsz0, by omega⟩
  obtain ⟨RD, hRD⟩ : ∃ x, x = reads six s := ⟨_, rfl⟩
  rw [← hRD] at HE HF ⊢
  generalize hST : (⟨s.toArray⟩ : ByteArray) = ST at HSp ⊢
  generalize hmk : (⟨#[mrk six]⟩ : ByteArray) = mk at HSp c0
  rw [stV]
  generalize hYY : (stC six).toArray = Y at HSp c0 ⊢
  rw [← hsz] at hs12
  obtain ⟨hsA, hsB⟩ := hs12
  clear hN hC hP hU hS hE hF hw1 hw0 hb0 hsz0 hn hle hspl hPS hreads hb1 hsz1 hat hat1 hNd hT hR hAC hsz hbs hRD hST hmk hYY hs hV PS
  go_enter Tryd.func23, Tryd.ntmps23
  go_wp2_with (go_at_call 32; refine HSp.out.mono ?_; rintro e w' ⟨rfl, rfl⟩)
  go_loopw [5, 15] (fun ov iv wr => ∃ (k : Nat) (acc : List UInt8), k ≤ N ∧ iv = .int .i64 (k : Int) ∧ Mine wr w'.heap.size 5 ov (cellsB acc) ∧ Hid (AC k = some acc ∧ acc.length = k * sz) ∧ Below w'.heap.size w' wr) (fun _ iv _ => N - (intOf iv).toNat)
  case atStart => exact ⟨0, [], by omega, rfl, Mine.nil _ _ _, Lib.hid ⟨H0.out, by simp⟩, HB.out⟩
  case round =>
    obtain ⟨k, acc, hkn, rfl, hown, hacc, hbel⟩ := hrel
    obtain ⟨hc1, hc2⟩ := HN.out wr hbel
    by_cases hk : k < N
    · have hcT := HC.out wr hbel k hk
      have t0 : decide ((k : Int) < (N : Int)) = true := by simp [hk]
      have hpk := HP.out wr hbel k hk
      rcases hRk : R k with _ | n
      · have HPk : Hid (Calls Tryd.prog 33 #[.string (T k), .int .i64 ((bs : Nat) : Int), .int .i64 (8 * ((sz : Nat) : Int))] wr fun e w' => ∃ v t p, e = .returned (.tuple #[.int .u64 ((v : Nat) : Int), .iface t p]) ∧ Below wr.heap.size wr w') := Lib.hid (hpk.mono fun e w' ⟨v, ev, he, hor, hb⟩ => by
          rcases hor with ⟨h, _⟩ | ⟨_, t, p, rfl⟩
          · rw [hRk] at h; cases h
          · exact ⟨v, t, p, he, hb⟩)
        have hend := HE.out k hk hRk
        have Hend := Lib.hid hend
        clear hpk hRk hend
        go_wp2_with (first
          | (go_at_call 33; refine HPk.out.mono ?_; rintro e w2 ⟨v, t, p, rfl, hb2⟩))
        go_ret
        exact ⟨_, rfl, by rw [Hend.out]; exact Mine.nil _ _ _, HU.out _ (up hbel hb2)⟩
      · have HPk : Hid (Calls Tryd.prog 33 #[.string (T k), .int .i64 ((bs : Nat) : Int), .int .i64 (8 * ((sz : Nat) : Int))] wr fun e w' => e = .returned (.tuple #[.int .u64 ((n : Nat) : Int), .nilIface]) ∧ Below wr.heap.size wr w') := Lib.hid (hpk.mono fun e w' ⟨v, ev, he, hor, hb⟩ => by
          rcases hor with ⟨h, rfl⟩ | ⟨h, _⟩
          · rw [hRk] at h
            obtain rfl := Option.some.inj h
            exact ⟨he, hb⟩
          · rw [hRk] at h; cases h)
        have hac := HS.out k hk acc n hacc.out.1 hRk
        have hlen := hacc.out.2
        have hN := HZ.out.2.2
        have hks : k * sz ≤ 1001 * 2 := Nat.mul_le_mul (by omega) (by omega)
        have HA := Lib.hid (And.intro hac (And.intro hlen hks))
        obtain ⟨A, c, hov⟩ := hown.form
        rw [cellsB_length] at hov
        subst hov
        clear hpk hRk hac hlen hks
        go_wp2_with (first
          | (go_at_call 33; refine HPk.out.mono ?_; rintro e w2 ⟨rfl, hb2⟩; have hbel2 := up hbel hb2; obtain ⟨hc1', hc2'⟩ := HN.out w2 hbel2)
          | (go_at_call 34; refine (put_yes A c acc n sz w2 _ (hown.kept hb2).rd (Nat.le_refl _) (by have := HA.out.2; omega) hsA (by omega)).mono ?_; rintro e w3 ⟨v3, rfl, hown3, hb3⟩))
        go_roundw
        case rel => exact ⟨k + 1, acc ++ be sz n, by omega, by go_num, hown3.weaken hbel2.size, Lib.hid ⟨HA.out.1, by rw [List.length_append, be_length, HA.out.2.1, Nat.add_mul, Nat.one_mul]⟩, up hbel2 hb3⟩
        case measure => simp [intOf]; omega
    · obtain rfl : k = N := by omega
      have hfin := HF.out acc hacc.out.1
      have Hfin := Lib.hid hfin
      clear hfin
      have t0 : decide ((k : Int) < (k : Int)) = false := by simp
      go_wp2_with fail
      go_ret
      exact ⟨_, rfl, by rw [Hfin.out]; exact hown.weaken (HU.out _ HB.out).size, HU.out _ hbel⟩
end Go.Proofs.YtepibdjglfaniaaDoor
