/-
  The walk of DevNone.
-/
import Derived.Test.YtmifaneolfciiaaDevJ
import Derived.Test.YtmifaneolfciiaaOpenAct
namespace Go.Proofs.Ytmifaneolfciiaa
open Go.RowKit
set_option maxRecDepth 100000 in
set_option maxHeartbeats 4000000 in
theorem none_walk (k s t : Int) (b : UInt8) (v : Value) (w : World) : Calls Try.prog 6 #[.agg #[.int .i64 k, .int .i64 s, .int .i64 t, .int .u8 (b.toNat : Int), v]] w fun e w' => e = .returned (.bool true) ∧ Below w.heap.size w w' := by
  go_enter Try.func6, Try.ntmps6
  go_wp2_with (first
    | (go_at_call 18; refine (read_nil _ _).mono ?_; rintro e w' ⟨rfl, rfl⟩)
    | (go_at_call 16; refine (crash_nil _ _).mono ?_; rintro e w' ⟨rfl, rfl⟩))
  obtain ⟨W, hW⟩ : ∃ W, W = w.alloc (.cells #[.int .i64 k, .int .i64 s, .int .i64 t, .int .u8 (b.toNat : Int), v] 34) := ⟨_, rfl⟩
  rw [← hW]
  have c1 : W.cell? ⟨w.heap.size, 1, none⟩ = some (.int .i64 s) := by rw [hW, World.cell?_alloc_mark]; rfl
  have c3 : W.cell? ⟨w.heap.size, 3, none⟩ = some (.int .u8 (b.toNat : Int)) := by rw [hW, World.cell?_alloc_mark]; rfl
  have hb0 : Below w.heap.size w W := by rw [hW]; exact (Below.refl _ _).alloc (Nat.le_refl _) _
  have hsz : w.heap.size < W.heap.size := by rw [hW]; simp
  clear hW
  go_region_held3 (fun w' : World => w'.cell? ⟨w.heap.size, 1, none⟩ = some (.int .i64 s) ∧ w'.cell? ⟨w.heap.size, 3, none⟩ = some (.int .u8 (b.toNat : Int)))
    (first | exact ⟨c1, c3⟩ | exact ⟨(hb2.cell (p := ⟨w.heap.size, 1, none⟩) hsz).trans c1, (hb2.cell (p := ⟨w.heap.size, 3, none⟩) hsz).trans c3⟩ | exact ⟨(hb3.cell (p := ⟨w.heap.size, 1, none⟩) (Nat.lt_of_lt_of_le hsz hb2.size)).trans ((hb2.cell (p := ⟨w.heap.size, 1, none⟩) hsz).trans c1), (hb3.cell (p := ⟨w.heap.size, 3, none⟩) (Nat.lt_of_lt_of_le hsz hb2.size)).trans ((hb2.cell (p := ⟨w.heap.size, 3, none⟩) hsz).trans c3)⟩)
    (first
    | (go_at_call 21; refine (full_any _ _).mono ?_; rintro e w2 ⟨g, rfl, hg, hh, hb2⟩)
    | (go_at_call 20; refine (write_nil _ _ _ _ _).mono ?_; rintro e w' ⟨rfl, rfl⟩)
    | (go_at_call 22; refine (flush_nil _).mono ?_; rintro e w' ⟨rfl, rfl⟩)
    | (go_at_call 23; refine (fail_nil _ _ _).mono ?_; rintro e w' ⟨rfl, rfl⟩)
    | (go_at_call 24; refine (spoil_nil _ _ _ _).mono ?_; rintro e w' ⟨rfl, rfl⟩)
    | (go_at_call 9; refine (len_nil _).mono ?_; rintro e w' ⟨rfl, rfl⟩)
    | (go_at_call 15; refine (writes_nil _).mono ?_; rintro e w' ⟨rfl, rfl⟩)
    | (go_at_call 13; refine (waiting_nil _).mono ?_; rintro e w' ⟨rfl, rfl⟩)
    | (go_at_call 8; refine (lives_any _).mono ?_; rintro e w3 ⟨rfl, hb3⟩))
  go_wp2_with fail
  go_ret
  exact ⟨rfl, up (up (up_drew hb0) hb2) hb3⟩
theorem devNone_walk (a : ActD) (w : World) (_ : ActIs w a) : Calls Try.prog 6 #[.agg a.cells.toArray] w fun e w' => e = .returned (.bool true) ∧ Below w.heap.size w w' := none_walk a.kind a.sector a.at_ a.by_ a.lv w
end Go.Proofs.Ytmifaneolfciiaa
