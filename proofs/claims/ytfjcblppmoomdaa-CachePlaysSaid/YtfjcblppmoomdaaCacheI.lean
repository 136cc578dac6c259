/-
  Held and Dirty of a cache: contracts.
-/
import Derived.Test.YtfjcblppmoomdaaCacheH
import Derived.Test.YtfjcblppmoomdaaIter
import Derived.Sort.OwnSorted
namespace Go.Proofs.Ytfjcblppmoomdaa
open Go.RowKit Go.Sort Go.Shelf
/-- The cells of whole numbers. -/
def cellsE (l : List Int) : List Value := l.map encZ
theorem cellsE_length (l : List Int) : (cellsE l).length = l.length := by simp [cellsE]
/-- Sorted. -/
def upward (l : List Int) : List Int := l.mergeSort fun x y => decide (x ≤ y)
theorem upward_length (l : List Int) : (upward l).length = l.length := by simp [upward]
/-- A row of the call's own, sorted. -/
theorem sort_any {w : World} {base : Nat} {v : Value} {l : List Int} (hown : Mine w base 3 v (cellsE l)) (hb : base ≤ w.heap.size) (hl : l.length < 1000000) :
    Calls Try.prog 60 #[v] w fun e w' => e = .returned (.tuple #[]) ∧ Mine w' base 3 v (cellsE (upward l)) ∧ Below base w w' := by
  unfold Mine at hown ⊢
  rw [cellsE_length] at hown ⊢
  rw [upward_length]
  rcases hown.2 with ⟨rfl, hz⟩ | ⟨gb, cap, cur, rfl, hbase, hgb, r1, r2, r3, r4⟩
  · have hss : l = [] := List.eq_nil_of_length_eq_zero hz
    subst hss
    refine (AnyM.slices_Sort_int_none sortA none 0 w).mono ?_
    rintro e w' ⟨rfl, rfl⟩
    exact ⟨rfl, by have e : upward [] = [] := (by simp [upward]); rw [e]; exact hown, Below.refl _ _⟩
  · have hH : Holds (Value.int .i64) w gb 0 l.toArray := holds_of_block_i hgb (by simpa [cellsE] using r4)
    refine (AnyM.slices_Sort_int sortA gb 0 cap l w hH (Array.getElem?_eq_some_iff.1 hgb).1 (by omega)).mono ?_
    rintro e w' ⟨rfl, nn, os, rfl⟩
    exact ⟨rfl, ownsRow_sorted_i (by simp) hbase hgb r1 r2 r3, (Below.refl _ _).grown (grownBy_sorted_i _) hb (fun j hj => by cases hj; exact hbase)⟩
theorem rd_single (w : World) (u : Value) (e : TypeId) : Rd (w.alloc (.cells #[u] e)) (w.heap.size + 1) (.slice (some ⟨w.heap.size, 0, none⟩) 1 1) [u] := by
  refine ⟨some ⟨w.heap.size, 0, none⟩, 1, rfl, Nat.le_refl _, by unfold maxLen; omega, (fun h => by cases h), fun _ => ⟨w.heap.size, 0, rfl, Nat.lt_succ_self _, fun j v hv => ?_⟩⟩
  rw [Nat.zero_add, World.cell?_alloc_mark]
  simpa using hv
theorem cinfo_int : (Try.prog.info? 3).map (fun i => (i.zero, i.size, i.bytes)) = some (some (.int .i64 0), 1, 8) := by kernel_rfl
/-- Of the first k frames, the sectors of those that are so. -/
def upThose (L : List Frm) (q : Frm → Bool) (k : Nat) : List Int := ((L.take k).filter q).map (·.no)
theorem upThose_succ {L : List Frm} (q : Frm → Bool) {k : Nat} (hk : k < L.length) : upThose L q (k + 1) = upThose L q k ++ if q L[k] = true then [L[k].no] else [] := by
  unfold upThose
  rw [List.take_succ_eq_append_getElem hk, List.filter_append, List.map_append]
  congr 1
  by_cases h : q L[k] = true
  · simp [h]
  · simp [h]
theorem upThose_le (L : List Frm) (q : Frm → Bool) (k : Nat) : (upThose L q k).length ≤ k := by
  unfold upThose
  rw [List.length_map]
  exact Nat.le_trans (List.length_filter_le _ _) (by simp; omega)
/-- The sectors of the frames that are so. -/
def Cch.those (x : Cch) (q : Frm → Bool) : List Int := upThose x.L q x.L.length
section
variable {w w' : World} {G G' : Nat → Prop} {c bf p : Nat} {x y : Cch} {d d' : Dev}
set_option maxRecDepth 100000 in
theorem sectors_nil (fn : Nat) (w : World) : Calls Try.prog 36 #[.pointer none, meth fn] w fun e w' => e = .returned (.slice none 0 0) ∧ w = w' := by
  go_enter Try.func36, Try.ntmps36
  go_wp2_with fail
  go_ret
  exact ⟨rfl, rfl⟩
set_option maxRecDepth 100000 in
set_option maxHeartbeats 800000 in
theorem sectors_full (h : CacheIs w c bf p x) :
    Calls Try.prog 36 #[at0 c, meth 37] w fun e w' => ∃ v, e = .returned v ∧ Mine w' w.heap.size 3 v (cellsE (upward (x.those fun f => f.full))) ∧ Below w.heap.size w w' := by
  obtain ⟨ti, hi, hz0, hz1, hz2⟩ := info_parts cinfo_int
  obtain ⟨n, hn⟩ : ∃ n, n = x.L.length := ⟨_, rfl⟩
  have hs := h.size
  have k0 := h.k0
  rw [← hn] at hs k0
  have hlt := h.lt.1
  have HF : Hid (∀ wr, Below w.heap.size w wr → ∀ k (hk : k < x.L.length), wr.cell? ⟨bf, k * 261 + 1, none⟩ = some (.int .i64 x.L[k].no) ∧ Calls Try.prog 37 #[frAt bf (k * 261)] wr fun e w' => e = .returned (.bool x.L[k].full) ∧ wr = w') := Lib.hid fun wr hb k hk => ⟨(h.below hb).f1 hk, isFull_any ((h.below hb).f0 hk)⟩
  have hth : x.those (fun f => f.full) = upThose x.L (fun f => f.full) n := by rw [hn]; rfl
  rw [hth]
  obtain ⟨L, hL⟩ : ∃ L, L = x.L := ⟨_, rfl⟩
  rw [← hL] at hn HF ⊢
  have Hn := Lib.hid hn
  clear h hth hL hn
  go_enter Try.func36, Try.ntmps36
  go_wp2_with fail
  go_loopw [5, 16] (fun ov iv wr => ∃ (k : Nat), k ≤ n ∧ iv = .int .i64 (k : Int) ∧ Mine wr w.heap.size 3 ov (cellsE (upThose L (fun f => f.full) k)) ∧ Below w.heap.size w wr) (fun _ iv _ => n - (intOf iv).toNat)
  case atStart => exact ⟨0, by omega, rfl, Mine.nil w _ 3, Below.refl _ _⟩
  case round =>
    obtain ⟨k, hkn, rfl, hown, hbel⟩ := hrel
    have k0' : wr.cell? ⟨c, 0, none⟩ = some (.slice (some ⟨bf, 0, none⟩) n n) := (hbel.cell (p := ⟨c, 0, none⟩) hlt).trans k0
    by_cases hk : k < n
    · have hk' : k < L.length := Hn.out ▸ hk
      obtain ⟨q1, q2⟩ := HF.out wr hbel k hk'
      have hup := upThose_succ (fun f => f.full) hk'
      have hlen := upThose_le L (fun f => f.full) k
      have t0 : decide ((k : Int) < (n : Int)) = true := by simp [hk]
      obtain ⟨no, hno⟩ : ∃ no, no = L[k].no := ⟨_, rfl⟩
      obtain ⟨b, hb⟩ : ∃ b, b = L[k].full := ⟨_, rfl⟩
      rw [← hno] at q1 hup
      rw [← hb] at q2 hup
      have Q2 := Lib.hid q2
      clear q2 hno hb hk'
      rcases b with _ | _
      · rw [if_neg (by simp), List.append_nil] at hup
        have Hup := Lib.hid hup
        clear hup
        go_wp2_with fail
        refine Q2.out.mono ?_
        rintro e w2 ⟨rfl, rfl⟩
        go_wp2_with fail
        go_roundw
        case rel => exact ⟨k + 1, by omega, by go_num, by rw [Hup.out]; exact hown, hbel⟩
        case measure => simp [intOf]; omega
      · rw [if_pos rfl] at hup
        have Hup := Lib.hid hup
        obtain ⟨M, hM⟩ : ∃ M, M = cellsE (upThose L (fun f => f.full) k) := ⟨_, rfl⟩
        have hMl : M.length ≤ k := by rw [hM, cellsE_length]; exact hlen
        rw [← hM] at hown
        have HM := Lib.hid hM
        have hs2 := hbel.size
        clear hup hlen hM
        go_wp2_with fail
        refine Q2.out.mono ?_
        rintro e w2 ⟨rfl, rfl⟩
        go_wp2_with (first
          | (at_builtin; refine wpList_append_rd rfl (.tmp 29) (.tmp 34) 39 rfl w.heap.size 3 ti _ 8 Try.underlying39 hi hz0 hz1 hz2 rfl _ M rfl (hown.alloc _) _ _ _ rfl (rd_single wr (.int .i64 no) 3) (by simp [Value.oneCell']) (by simp; omega) (by unfold maxLen; simp; omega) (by simp; omega) ?_; intro v3 w3 hown3 hb3 _ _))
        go_roundw
        case rel =>
          refine ⟨k + 1, by omega, by go_num, ?_, (hbel.alloc hs2 _).trans hb3⟩
          rw [Hup.out]
          rw [HM.out] at hown3
          simpa [cellsE] using hown3
        case measure => simp [intOf]; omega
    · have hkm2 : k = n := by omega
      subst hkm2
      have t0 : decide ((k : Int) < (k : Int)) = false := by simp
      have hlen := upThose_le L (fun f => f.full) k
      have hS := sort_any hown hbel.size (by omega)
      have HS := Lib.hid hS
      clear hS
      go_wp2_with (first
        | (go_at_call 60; refine HS.out.mono ?_; rintro e w2 ⟨rfl, hown2, hb2⟩))
      go_ret
      exact ⟨_, rfl, hown2, hbel.trans hb2⟩
set_option maxRecDepth 100000 in
theorem Held_any (h : CacheIs w c bf p x) : Calls Try.prog 15 #[at0 c] w fun e w' => ∃ v, e = .returned v ∧ Mine w' w.heap.size 3 v (cellsE (upward (x.those fun f => f.full))) ∧ Below w.heap.size w w' := by
  have HS := Lib.hid (sectors_full h)
  clear h
  go_enter Try.func15, Try.ntmps15
  go_wp2_with fail
  refine HS.out.mono ?_
  rintro e w2 ⟨v, rfl, h1, h2⟩
  go_wp2_with fail
  go_ret
  exact ⟨v, rfl, h1, h2⟩
set_option maxRecDepth 100000 in
theorem Held_nil (w : World) : Calls Try.prog 15 #[.pointer none] w fun e w' => e = .returned (.slice none 0 0) ∧ w = w' := by
  go_enter Try.func15, Try.ntmps15
  go_wp2_with fail
  refine (sectors_nil 37 w).mono ?_
  rintro e w2 ⟨rfl, rfl⟩
  go_wp2_with fail
  go_ret
  exact ⟨rfl, rfl⟩
set_option maxRecDepth 100000 in
set_option maxHeartbeats 800000 in
theorem sectors_dirty (h : CacheIs w c bf p x) :
    Calls Try.prog 36 #[at0 c, meth 39] w fun e w' => ∃ v, e = .returned v ∧ Mine w' w.heap.size 3 v (cellsE (upward (x.those fun f => f.dirty))) ∧ Below w.heap.size w w' := by
  obtain ⟨ti, hi, hz0, hz1, hz2⟩ := info_parts cinfo_int
  obtain ⟨n, hn⟩ : ∃ n, n = x.L.length := ⟨_, rfl⟩
  have hs := h.size
  have k0 := h.k0
  rw [← hn] at hs k0
  have hlt := h.lt.1
  have HF : Hid (∀ wr, Below w.heap.size w wr → ∀ k (hk : k < x.L.length), wr.cell? ⟨bf, k * 261 + 1, none⟩ = some (.int .i64 x.L[k].no) ∧ Calls Try.prog 39 #[frAt bf (k * 261)] wr fun e w' => e = .returned (.bool x.L[k].dirty) ∧ wr = w') := Lib.hid fun wr hb k hk => ⟨(h.below hb).f1 hk, isDirty_any ((h.below hb).f258 hk)⟩
  have hth : x.those (fun f => f.dirty) = upThose x.L (fun f => f.dirty) n := by rw [hn]; rfl
  rw [hth]
  obtain ⟨L, hL⟩ : ∃ L, L = x.L := ⟨_, rfl⟩
  rw [← hL] at hn HF ⊢
  have Hn := Lib.hid hn
  clear h hth hL hn
  go_enter Try.func36, Try.ntmps36
  go_wp2_with fail
  go_loopw [5, 16] (fun ov iv wr => ∃ (k : Nat), k ≤ n ∧ iv = .int .i64 (k : Int) ∧ Mine wr w.heap.size 3 ov (cellsE (upThose L (fun f => f.dirty) k)) ∧ Below w.heap.size w wr) (fun _ iv _ => n - (intOf iv).toNat)
  case atStart => exact ⟨0, by omega, rfl, Mine.nil w _ 3, Below.refl _ _⟩
  case round =>
    obtain ⟨k, hkn, rfl, hown, hbel⟩ := hrel
    have k0' : wr.cell? ⟨c, 0, none⟩ = some (.slice (some ⟨bf, 0, none⟩) n n) := (hbel.cell (p := ⟨c, 0, none⟩) hlt).trans k0
    by_cases hk : k < n
    · have hk' : k < L.length := Hn.out ▸ hk
      obtain ⟨q1, q2⟩ := HF.out wr hbel k hk'
      have hup := upThose_succ (fun f => f.dirty) hk'
      have hlen := upThose_le L (fun f => f.dirty) k
      have t0 : decide ((k : Int) < (n : Int)) = true := by simp [hk]
      obtain ⟨no, hno⟩ : ∃ no, no = L[k].no := ⟨_, rfl⟩
      obtain ⟨b, hb⟩ : ∃ b, b = L[k].dirty := ⟨_, rfl⟩
      rw [← hno] at q1 hup
      rw [← hb] at q2 hup
      have Q2 := Lib.hid q2
      clear q2 hno hb hk'
      rcases b with _ | _
      · rw [if_neg (by simp), List.append_nil] at hup
        have Hup := Lib.hid hup
        clear hup
        go_wp2_with fail
        refine Q2.out.mono ?_
        rintro e w2 ⟨rfl, rfl⟩
        go_wp2_with fail
        go_roundw
        case rel => exact ⟨k + 1, by omega, by go_num, by rw [Hup.out]; exact hown, hbel⟩
        case measure => simp [intOf]; omega
      · rw [if_pos rfl] at hup
        have Hup := Lib.hid hup
        obtain ⟨M, hM⟩ : ∃ M, M = cellsE (upThose L (fun f => f.dirty) k) := ⟨_, rfl⟩
        have hMl : M.length ≤ k := by rw [hM, cellsE_length]; exact hlen
        rw [← hM] at hown
        have HM := Lib.hid hM
        have hs2 := hbel.size
        clear hup hlen hM
        go_wp2_with fail
        refine Q2.out.mono ?_
        rintro e w2 ⟨rfl, rfl⟩
        go_wp2_with (first
          | (at_builtin; refine wpList_append_rd rfl (.tmp 29) (.tmp 34) 39 rfl w.heap.size 3 ti _ 8 Try.underlying39 hi hz0 hz1 hz2 rfl _ M rfl (hown.alloc _) _ _ _ rfl (rd_single wr (.int .i64 no) 3) (by simp [Value.oneCell']) (by simp; omega) (by unfold maxLen; simp; omega) (by simp; omega) ?_; intro v3 w3 hown3 hb3 _ _))
        go_roundw
        case rel =>
          refine ⟨k + 1, by omega, by go_num, ?_, (hbel.alloc hs2 _).trans hb3⟩
          rw [Hup.out]
          rw [HM.out] at hown3
          simpa [cellsE] using hown3
        case measure => simp [intOf]; omega
    · have hkm2 : k = n := by omega
      subst hkm2
      have t0 : decide ((k : Int) < (k : Int)) = false := by simp
      have hlen := upThose_le L (fun f => f.dirty) k
      have hS := sort_any hown hbel.size (by omega)
      have HS := Lib.hid hS
      clear hS
      go_wp2_with (first
        | (go_at_call 60; refine HS.out.mono ?_; rintro e w2 ⟨rfl, hown2, hb2⟩))
      go_ret
      exact ⟨_, rfl, hown2, hbel.trans hb2⟩
set_option maxRecDepth 100000 in
theorem Dirty_any (h : CacheIs w c bf p x) : Calls Try.prog 17 #[at0 c] w fun e w' => ∃ v, e = .returned v ∧ Mine w' w.heap.size 3 v (cellsE (upward (x.those fun f => f.dirty))) ∧ Below w.heap.size w w' := by
  have HS := Lib.hid (sectors_dirty h)
  clear h
  go_enter Try.func17, Try.ntmps17
  go_wp2_with fail
  refine HS.out.mono ?_
  rintro e w2 ⟨v, rfl, h1, h2⟩
  go_wp2_with fail
  go_ret
  exact ⟨v, rfl, h1, h2⟩
set_option maxRecDepth 100000 in
theorem Dirty_nil (w : World) : Calls Try.prog 17 #[.pointer none] w fun e w' => e = .returned (.slice none 0 0) ∧ w = w' := by
  go_enter Try.func17, Try.ntmps17
  go_wp2_with fail
  refine (sectors_nil 39 w).mono ?_
  rintro e w2 ⟨rfl, rfl⟩
  go_wp2_with fail
  go_ret
  exact ⟨rfl, rfl⟩
end
end Go.Proofs.Ytfjcblppmoomdaa
