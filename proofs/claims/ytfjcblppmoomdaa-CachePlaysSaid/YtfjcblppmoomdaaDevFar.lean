/-
  Write, with the bytes in a block that is not the device's; small words.
-/
import Derived.Test.YtfjcblppmoomdaaDevI
namespace Go.Proofs.Ytfjcblppmoomdaa
open Go.RowKit
section
variable {w : World} {F : Nat → Prop} {p bl bm : Nat} {S : Nat → Value} {D : DataW Value} {d : Dev}
theorem DevIs.tight (h : DevIs w F p bl bm S D d) : DevIs w (fun k => F k ∧ k < w.heap.size) p bl bm S D d := h.mono fun _ hk hF => ⟨hF, hk⟩
theorem DevIs.far (h : DevIs w F p bl bm S D d) {w' : World} (hb : Below w.heap.size w w') {g : Nat} (hg : w.heap.size ≤ g) : DevIs w' (fun k => F k ∧ k ≠ g) p bl bm S D d :=
  (h.tight.below hb).mono fun k _ hk => ⟨hk.1, by omega⟩
theorem write_far {i : Nat} {bb bo c : Nat} {l : List UInt8} (h : DevIs w (fun k => F k ∧ k ≠ bb) p bl bm S D d) (hi : i < d.L.length) (hb : d.burns 2 = false) (hn : d.n < 1000000)
    (hl : l.length = 256) (hr : w.rangeAt bb bo (cellsB l)) (hbb : bb < w.heap.size) (hF : ∀ k, w.heap.size ≤ k → F k) :
    Calls Try.prog 65 #[at0 p, .int .i64 (i : Int), .slice (some ⟨bb, bo, none⟩) 256 c] w fun e w' => ∃ S' D', e = .returned (.int .i64 0) ∧ DevIs w' F p bl bm S' D' ((d.burn 2).put i l) ∧ Only F w w' := by
  refine (write_ok h hi hb hn hl hr hbb (fun hn => hn.2 rfl) (fun k hk => ⟨hF k hk, by omega⟩)).mono ?_
  rintro e w' ⟨S', D', rfl, hd, ho⟩
  exact ⟨S', D', rfl, hd.mono fun k _ hk => hk.1, ho.mono fun k _ hk => hk.1⟩
theorem Dev.burn_idle (d : Dev) (k : Nat) (h : (d.f k).1 = false) : d.burn k = d := by simp [Dev.burn, h]
theorem Dev.burns_idle (d : Dev) (k : Nat) (h : (d.f k).1 = false) : d.burns k = false := by simp [Dev.burns, h]
theorem range_new {g : Nat} {t : TypeId} {xs : List Value} (hg : w.heap[g]? = some (.cells xs.toArray t (0, 0))) : w.rangeAt g 0 xs := rangeAt_block hg fun j u hu => by rw [Nat.zero_add]; exact hu
theorem Dev.new_length (n : Nat) : (Dev.new n).L.length = n := by simp [Dev.new]
theorem Dev.flush_length (d : Dev) : d.flush.L.length = d.L.length := by simp [Dev.flush]
end
end Go.Proofs.Ytfjcblppmoomdaa
