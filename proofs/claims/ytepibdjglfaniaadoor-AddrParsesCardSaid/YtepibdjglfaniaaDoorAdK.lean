/-
  Numbers out of texts (strconv.ParseUint, Atoi), whatever they are: contracts.
-/
import Derived.Test.YtepibdjglfaniaaDoorAdH
import Derived.Test.YtepibdjglfaniaaDoorAdI
namespace Go.Proofs.YtepibdjglfaniaaDoor
open Go.RowKit
/-- What ParseUint tells. -/
def ParOut (six : Bool) (l : List UInt8) (v : Nat) (ev : Value) : Prop := match readN six l with
  | some n => v = n ∧ ev = .nilIface
  | none => ∃ t p, ev = .iface t p
theorem below_bytes (w : World) (e : TypeId) (t : ByteArray) : Below w.heap.size w (Lib.bytesWorld w e t) := Lib.bytesWorld_below _ _ _
theorem par10_any (l : List UInt8) (hl : l.length ≤ 1000) (w : World) (hV : Vars w) :
    Calls Tryd.prog 33 #[.string ⟨l.toArray⟩, .int .i64 10, .int .i64 8] w fun e w' => ∃ v ev, e = .returned (.tuple #[.int .u64 ((v : Nat) : Int), ev]) ∧ ParOut false l v ev ∧ Below w.heap.size w w' := by
  have hs : (⟨l.toArray⟩ : ByteArray).size = l.length := by simp [ByteArray.size]
  rcases h : Lib.parseUintB 8 l with n | _ | _
  · refine (Tryd.strconv_ParseUint_10_at8_ok ⟨l.toArray⟩ (by rw [hs]; omega) n h w).mono ?_
    rintro e w' ⟨rfl, hw⟩
    refine ⟨n, .nilIface, rfl, by simp [ParOut, readN, h], ?_⟩
    rcases hw with rfl | rfl
    · exact Below.refl _ _
    · exact below_bytes _ _ _
  · obtain ⟨te, pe, hb⟩ := hV.bad
    refine (Any.strconv_ParseUint_10_at8_syntax Tryd.laysPu14 ⟨l.toArray⟩ (by rw [hs]; omega) h _ w hb (Or.inr ⟨te, pe, rfl⟩)).mono ?_
    rintro e w' ⟨N, rfl, _, _, hbel⟩
    exact ⟨0, _, rfl, by simp [ParOut, readN, h], hbel⟩
  · obtain ⟨te, pe, hb⟩ := hV.far
    refine (Tryd.strconv_ParseUint_10_at8_range ⟨l.toArray⟩ (by rw [hs]; omega) h _ w hb (Or.inr ⟨te, pe, rfl⟩)).mono ?_
    rintro e w' ⟨N, rfl, _, _, hbel⟩
    exact ⟨255, _, rfl, by simp [ParOut, readN, h], hbel⟩
set_option maxRecDepth 100000 in
theorem inner16_none (w : World) : Calls Tryd.prog 47 #[.string ⟨#[]⟩, .int .i64 16, .int .i64 16] w fun e w' => e = .returned (hexOut .bad) ∧ w = w' := by
  have h0 : (⟨#[]⟩ : ByteArray).toList.isEmpty = true := by first | (unfold ByteArray.toList ByteArray.toList.loop; rfl) | kernel_rfl
  go_enter Tryd.func47, Tryd.ntmps47
  go_wp2_with fail
  go_ret2
  exact ⟨rfl, rfl⟩
theorem inner16_all (l : List UInt8) (hl : l.length ≤ 1000) (w : World) :
    Calls Tryd.prog 47 #[.string ⟨l.toArray⟩, .int .i64 16, .int .i64 16] w fun e w' => e = .returned (hexOut (hex16 l)) ∧ Below w.heap.size w w' := by
  by_cases h0 : l = []
  · subst h0
    refine (inner16_none w).mono ?_
    rintro e w' ⟨rfl, rfl⟩
    exact ⟨rfl, Below.refl _ _⟩
  · have hs : (⟨l.toArray⟩ : ByteArray).size = l.length := by simp [ByteArray.size]
    refine (inner16_any ⟨l.toArray⟩ (by rw [hs]; exact fun e => h0 (List.eq_nil_of_length_eq_zero e)) (by rw [hs]; omega) w).mono ?_
    rintro e w' ⟨rfl, rfl⟩
    exact ⟨by rw [hex16, if_neg h0], below_bytes _ _ _⟩
set_option maxRecDepth 100000 in
theorem par16_any (l : List UInt8) (hl : l.length ≤ 1000) (w : World) (hV : Vars w) :
    Calls Tryd.prog 33 #[.string ⟨l.toArray⟩, .int .i64 16, .int .i64 16] w fun e w' => ∃ v ev, e = .returned (.tuple #[.int .u64 ((v : Nat) : Int), ev]) ∧ ParOut true l v ev ∧ Below w.heap.size w w' := by
  have hin := inner16_all l hl w
  have hs : (⟨l.toArray⟩ : ByteArray).size = l.length := by simp [ByteArray.size]
  have hlim : (⟨l.toArray⟩ : ByteArray).size ≤ 281474976710656 := by rw [hs]; omega
  generalize hS : (⟨l.toArray⟩ : ByteArray) = S at hin hlim ⊢
  have hbad : ∀ (fn : ByteArray) w', Vars w' → Calls Tryd.prog 38 #[.string fn, .string S, .int .i64 16, .int .i64 16, .iface 78 (.int .i64 2)] w' fun e w2 => (∃ t p, e = .returned (.iface t p)) ∧ Below w'.heap.size w' w2 := fun fn w' hV' => by
    obtain ⟨te, pe, hb⟩ := hV'.bad
    refine (Tryd.strconv_toError_syntax fn S 16 16 _ w' hlim hb (Or.inr ⟨te, pe, rfl⟩)).mono ?_
    rintro e w2 ⟨N, rfl, _, _, hb2⟩
    exact ⟨⟨_, _, rfl⟩, hb2⟩
  have hfar : ∀ (fn : ByteArray) w', Vars w' → Calls Tryd.prog 38 #[.string fn, .string S, .int .i64 16, .int .i64 16, .iface 78 (.int .i64 1)] w' fun e w2 => (∃ t p, e = .returned (.iface t p)) ∧ Below w'.heap.size w' w2 := fun fn w' hV' => by
    obtain ⟨te, pe, hb⟩ := hV'.far
    refine (Tryd.strconv_toError_range fn S 16 16 _ w' hlim hb (Or.inr ⟨te, pe, rfl⟩)).mono ?_
    rintro e w2 ⟨N, rfl, _, _, hb2⟩
    exact ⟨⟨_, _, rfl⟩, hb2⟩
  have hup : Hid (∀ w', Below w.heap.size w w' → Vars w') := Lib.hid fun w' hb => hV.up hb
  have Hin := Lib.hid hin
  have Hbad := Lib.hid hbad
  have Hfar := Lib.hid hfar
  clear hin hbad hfar hlim hS hs hV
  rcases h : hex16 l with n | _ | _
  · rw [h, hexOut] at Hin
    go_enter Tryd.func33, Tryd.ntmps33
    go_wp2_with (go_at_call 47; refine Hin.out.mono ?_; rintro e w' ⟨rfl, hb⟩)
    go_ret2
    exact ⟨n, _, rfl, by simp [ParOut, readN, h], hb⟩
  · rw [h, hexOut] at Hin
    go_enter Tryd.func33, Tryd.ntmps33
    go_wp2_with (first
      | (go_at_call 47; refine Hin.out.mono ?_; rintro e w' ⟨rfl, hb⟩)
      | (go_at_call 38; refine (Hbad.out _ _ (hup.out _ hb)).mono ?_; rintro e w2 ⟨⟨t, p, rfl⟩, hb2⟩))
    go_ret2
    exact ⟨0, _, rfl, by simp [ParOut, readN, h], up hb hb2⟩
  · rw [h, hexOut] at Hin
    go_enter Tryd.func33, Tryd.ntmps33
    go_wp2_with (first
      | (go_at_call 47; refine Hin.out.mono ?_; rintro e w' ⟨rfl, hb⟩)
      | (go_at_call 38; refine (Hfar.out _ _ (hup.out _ hb)).mono ?_; rintro e w2 ⟨⟨t, p, rfl⟩, hb2⟩))
    go_ret2
    exact ⟨65535, _, rfl, by simp [ParOut, readN, h], up hb hb2⟩
theorem par_any {six : Bool} (l : List UInt8) (hl : l.length ≤ 1000) (w : World) (hV : Vars w) :
    Calls Tryd.prog 33 #[.string ⟨l.toArray⟩, .int .i64 (bas six : Nat), .int .i64 (8 * siz six : Nat)] w fun e w' => ∃ v ev, e = .returned (.tuple #[.int .u64 ((v : Nat) : Int), ev]) ∧ ParOut six l v ev ∧ Below w.heap.size w w' := by
  cases six
  · exact par10_any l hl w hV
  · exact par16_any l hl w hV
/-- What Atoi tells. -/
def AtoOut (l : List UInt8) (v : Int) (ev : Value) : Prop := (Lib.atoiAll l = .ok v ∧ ev = .nilIface) ∨ ((∀ n, Lib.atoiAll l ≠ .ok n) ∧ ∃ t p, ev = .iface t p)
theorem atoi_any (l : List UInt8) (hl : l.length ≤ 1000) (w : World) (hV : Vars w) :
    Calls Tryd.prog 27 #[.string ⟨l.toArray⟩] w fun e w' => ∃ v ev, e = .returned (.tuple #[.int .i64 v, ev]) ∧ AtoOut l v ev ∧ Below w.heap.size w w' := by
  have hs : (⟨l.toArray⟩ : ByteArray).size = l.length := by simp [ByteArray.size]
  rcases h : Lib.atoiAll l with n | _ | _
  · refine (Tryd.strconv_Atoi_ok ⟨l.toArray⟩ (by rw [hs]; omega) n h w).mono ?_
    rintro e w' ⟨rfl, hw⟩
    refine ⟨n, .nilIface, rfl, Or.inl ⟨h, rfl⟩, ?_⟩
    rcases hw with rfl | ⟨t, rfl⟩
    · exact Below.refl _ _
    · exact below_bytes _ _ _
  · obtain ⟨te, pe, hb⟩ := hV.bad
    refine (Any.strconv_Atoi_syntax Tryd.laysC172 ⟨l.toArray⟩ (by rw [hs]; omega) h _ w hb (Or.inr ⟨te, pe, rfl⟩)).mono ?_
    rintro e w' ⟨N, rfl, _, _, hbel⟩
    exact ⟨0, _, rfl, Or.inr ⟨(fun n e => by rw [h] at e; cases e), _, _, rfl⟩, hbel⟩
  · obtain ⟨te, pe, hb⟩ := hV.far
    refine (Tryd.strconv_Atoi_range ⟨l.toArray⟩ (by rw [hs]; omega) h _ w hb (Or.inr ⟨te, pe, rfl⟩)).mono ?_
    rintro e w' ⟨N, rfl, _, _, hbel⟩
    exact ⟨_, _, rfl, Or.inr ⟨(fun n e => by rw [h] at e; cases e), _, _, rfl⟩, hbel⟩
/-- A small number as a text. -/
theorem itoa_any (n : Nat) (hn : n ≤ 1000) (w : World) (hV : Vars w) :
    Calls Tryd.prog 40 #[.int .i64 (n : Int)] w fun e w' => e = .returned (.string ⟨(digs 10 n).toArray⟩) ∧ Below w.heap.size w w' := by
  refine (Tryd.strconv_Itoa (n : Int) (by omega) (by omega) w hV.pow).mono ?_
  rintro e w' ⟨rfl, k, os, rfl⟩
  exact ⟨by rw [Lib.itoa_nonneg, digs_ten], below_grow _ _ _⟩
end Go.Proofs.YtepibdjglfaniaaDoor
