import Derived.Test.YtfjcblppmoomdaaCacheLives
namespace Go.Proofs.Ytfjcblppmoomdaa
open Go.RowKit
set_option maxRecDepth 100000 in
set_option maxHeartbeats 1000000 in
theorem cacheNone_byte (no : Int) (by_ : UInt8) (w : World) : Calls Try.prog 7 #[.int .i64 no, .int .u8 (by_.toNat : Int)] w fun e w' => e = .returned (.bool true) ∧ Below w.heap.size w w' := by
  have Hfull := Lib.hid (cfull_any by_)
  obtain ⟨b, hb⟩ : ∃ b : Int, b = by_.toNat := ⟨_, rfl⟩
  rw [← hb] at Hfull ⊢
  clear hb
  go_enter Try.func7, Try.ntmps7
  go_wp2_with (first
    | (go_at_call 25; refine (get_nil _ _).mono ?_; rintro e w1 ⟨rfl, rfl⟩)
    | (go_at_call 9; refine (cnew_nil _ _).mono ?_; rintro e w1 ⟨rfl, rfl⟩)
    | (go_at_call 23; refine (Hfull.out _).mono ?_; rintro e w2 ⟨g, rfl, hg, hh, hb2⟩; have Hb2 := Lib.hid hb2; clear hg hh hb2)
    | (go_at_call 22; refine (put_nil _ _ _ _).mono ?_; rintro e w3 ⟨rfl, rfl⟩)
    | (go_at_call 27; refine (cpin_nil _ _).mono ?_; rintro e w3 ⟨rfl, rfl⟩)
    | (go_at_call 28; refine (cunpin_nil _ _).mono ?_; rintro e w3 ⟨rfl, rfl⟩)
    | (go_at_call 29; refine (cdrop_nil _ _).mono ?_; rintro e w3 ⟨rfl, rfl⟩)
    | (go_at_call 24; refine (sync_nil _).mono ?_; rintro e w3 ⟨rfl, rfl⟩)
    | (go_at_call 15; refine (Held_nil _).mono ?_; rintro e w3 ⟨rfl, rfl⟩)
    | (go_at_call 17; refine (Dirty_nil _).mono ?_; rintro e w3 ⟨rfl, rfl⟩)
    | (go_at_call 10; refine (clives_any _).mono ?_; rintro e w4 ⟨rfl, hb4⟩))
  go_ret
  exact ⟨rfl, Hb2.out.trans (hb4.mono Hb2.out.size)⟩
/-- A number of a byte's kind is a byte's. -/
theorem byte_of_wf {n : Int} (h : (Lit.int .u8 n).wf = true) : ∃ b : UInt8, n = (b.toNat : Int) := by
  have h1 : 0 ≤ n ∧ n < 256 := by
    have := h
    simp [Lit.wf, IntKind.min, IntKind.max, IntKind.bits, IntKind.signed] at this; omega
  refine ⟨UInt8.ofNat n.toNat, ?_⟩
  rw [UInt8.toNat_ofNat']
  omega
theorem cacheNone_walk (no n : Int) (w : World) (_ : (Lit.int .i64 no).wf = true) (h : (Lit.int .u8 n).wf = true) : Calls Try.prog 7 #[.int .i64 no, .int .u8 n] w fun e w' => e = .returned (.bool true) ∧ Below w.heap.size w w' := by
  obtain ⟨b, rfl⟩ := byte_of_wf h
  exact cacheNone_byte no b w
end Go.Proofs.Ytfjcblppmoomdaa
