/-
  What the laws CacheThrough and CacheSynced begin with: a device, a cache, an array of bytes.
-/
import Derived.Test.YtfjcblppmoomdaaCacheThr
namespace Go.Proofs.Ytfjcblppmoomdaa
open Go.RowKit
theorem thr_new (w0 : World) : ∀ w1 p bl bm S D, DevIs w1 (fun k => w0.heap.size ≤ k) p bl bm S D (Dev.new 24) → Below w0.heap.size w0 w1 → Calls Try.prog 9 #[at0 p, .int .i64 8] w1 fun e w' => ∃ c bf, e = .returned (.tuple #[at0 c, .int .i64 0]) ∧
    (∃ x d, Thr w0 (w'.alloc (.cells (cellsB (List.replicate 24 0)).toArray 56)) (fun _ => False) w'.heap.size c bf p (List.replicate 24 0) (ofBytes (List.replicate 24 0)) 0 x d) ∧ Below w0.heap.size w0 w' := fun w1 p bl bm S D hd hb => by
  refine (Lw.made w0 (k := 8) ⟨by omega, by omega⟩ hd hb).mono ?_
  rintro e w' ⟨c, bf, rfl, hL⟩
  refine ⟨c, bf, rfl, ⟨Cch.new 8, Dev.new 24, ?_⟩, hL.low⟩
  refine ⟨hL.more ((Below.refl _ _).alloc (Nat.le_refl _) _) fun k hk => .inr ?_, by rw [ofBytes_zero]; exact inv_new 8 24 (by omega), Cch.new_len 8, Dev.new_length 24, Nat.le_refl _, fun j => by unfold Cch.fr; rw [new_getD]; rfl, heap_alloc_last _ _, List.length_replicate⟩
  rcases hk with e | e
  · subst e; exact ⟨Nat.le_refl _, by simp⟩
  · exact e.elim
theorem zero24 : ∃ Z : Array Value, Z = (cellsB (List.replicate 24 0)).toArray ∧ (∀ w, (zeroValue 56).run Try.prog w = .ok (.agg Z) w) ∧ (∀ w, (Instr.build 56 #[]).run Try.prog w = .ok (.agg Z) w) ∧ (Try.prog.info? 56).map (·.size) = some Z.size ∧ Z.all (·.oneCell') = true :=
  ⟨_, rfl, fun w => by kernel_rfl, fun w => by kernel_rfl, by kernel_rfl, bytesAll_one _⟩
end Go.Proofs.Ytfjcblppmoomdaa
