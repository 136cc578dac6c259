/-
  CacheSynced: a loss of power, and reads of the device behind it.
-/
import Derived.Test.YtfjcblppmoomdaaCacheThr
import Derived.Test.YtfjcblppmoomdaaDevJ
namespace Go.Proofs.Ytfjcblppmoomdaa
open Go.RowKit
section
variable {w0 wr w1 : World} {O O' : Nat → Prop} {g c bf p n m : Nat} {hs : List UInt8} {H : Nat → List UInt8} {x : Cch} {d : Dev}
theorem crash_none (d : Dev) (i : Nat) : (d.crash []).now i = d.L.getD i [] := by
  have e : (d.crash []).L = d.L := lose_none d.Q d.waits d.L
  show (([] : List (List UInt8)).getLast?).getD ((d.crash []).L.getD i []) = _
  rw [e]
  rfl
theorem Thr.crash (h : Thr w0 wr O g c bf p hs H n x d) (hn : n < 999999) (hL : ∀ m, m < 24 → d.L.getD m [] = H m) :
    Calls Try.prog 26 #[at0 p, .slice none 0 0] wr fun e w' => e = .returned (.tuple #[]) ∧ (∃ d, Thr w0 w' O g c bf p hs H n x d ∧ ∀ m, m < 24 → d.now m = H m) ∧ Below w0.heap.size w0 w' := by
  obtain ⟨bl, bm, S, D, hd⟩ := h.lw.cd.dev
  have hf := h.few
  refine (crash_any (A := none) (c := 0) (ks := []) hd (by omega) (fun h => absurd h (by simp)) (by simp) h.lw.fresh).mono ?_
  rintro e w' ⟨S', D', rfl, hd', ho⟩
  have h1 := h.lw.call (h.lw.cd.moved hd' ho) ho.device
  have hlen : (d.crash []).L.length = d.L.length := by
    show (lose d.Q d.waits [] d.L).length = _
    rw [lose_none]
  have hnow : ∀ m, m < 24 → (d.crash []).now m = H m := fun m hm => by rw [crash_none]; exact hL m hm
  refine ⟨rfl, ⟨d.crash [], ⟨h1, ⟨by rw [hlen]; exact h.inv.ok, fun _ => rfl, h.inv.held, fun i hi hf _ => ?_, fun m hm hn => ?_⟩, h.len, by rw [hlen]; exact h.secs, h.few, h.pins, ?_, h.hlen⟩, hnow⟩, h1.low⟩
  · have hw := h.inv.ok.within i hi hf
    have hs := h.secs
    exact hnow _ (by have a : 0 ≤ (x.fr i).no := hw.1; have b : (x.fr i).no < d.L.length := hw.2; omega)
  · rw [hlen, h.secs] at hm
    exact hnow m hm
  · exact (ho.block g (h.lw.blk g (.inl rfl)).2.1 (fun e => e.2 (.inl rfl))).trans h.arr
theorem Thr.read (h : Thr w0 wr O g c bf p hs H n x d) (hn : n < 999999) (hm : m < 24) (hnow : d.now m = H m) :
    Calls Try.prog 20 #[at0 p, .int .i64 (m : Int)] wr fun e w' => ∃ g', e = .returned (.tuple #[.slice (some ⟨g', 0, none⟩) 256 256, .int .i64 0]) ∧ Rd w' w'.heap.size (.slice (some ⟨g', 0, none⟩) 256 256) (cellsB (H m)) ∧ Thr w0 w' O g c bf p hs H n x d ∧ Below w0.heap.size w0 w' := by
  obtain ⟨bl, bm, S, D, hd⟩ := h.lw.cd.dev
  have hf := h.few
  have hml : m < d.L.length := by rw [h.secs]; exact hm
  have hw := Dev.now_wide hd hml
  refine (read_ok hd hml (h.inv.calm.burns 1) (by omega)).mono ?_
  rintro e w' ⟨g', rfl, hg, hgs, hd', ho⟩
  rw [h.inv.calm.burn] at hd'
  rw [hnow] at hg hw
  have h1 := h.lw.call (h.lw.cd.moved hd' ho) ho.device
  exact ⟨g', rfl, rd_whole hg hw, { h with lw := h1, arr := (ho.block g (h.lw.blk g (.inl rfl)).2.1 (fun e => e.2 (.inl rfl))).trans h.arr }, h1.low⟩
theorem Thr.put_out (h : Thr w0 wr O g c bf p hs H n x d) (hn : n < 999999) {no : Int} (hno : ¬ (0 ≤ no ∧ no < 24)) (hb : Below wr.heap.size wr w1) {g5 : Nat} (hg : wr.heap.size ≤ g5) {l : List UInt8} (hl : l.length = 256) (hh : w1.heap[g5]? = some (.cells (cellsB l).toArray 5 (0, 0))) :
    Calls Try.prog 22 #[at0 c, .int .i64 no, .slice (some ⟨g5, 0, none⟩) 256 256] w1 fun e w' => e = .returned (.int .i64 1) ∧ (∃ x d, Thr w0 w' O g c bf p hs H n x d) ∧ (∀ k, O k → w'.heap[k]? = w1.heap[k]?) ∧ Below w0.heap.size w0 w' := by
  have hf := h.few
  have e : x.put d no l = (1, x, d) := by unfold Cch.put; rw [if_neg (by rw [h.secs]; exact hno)]
  have := h.lw.lw_put h.inv.ok.within (by omega) no hb hg hl hh
  rw [e] at this
  refine this.mono ?_
  rintro e w' ⟨rfl, q1, q2, q3⟩
  exact ⟨rfl, ⟨x, d, h.call q1 h.inv rfl rfl h.few (fun _ => rfl) ((q2 g (.inl rfl)).trans (hb.block g (Array.getElem?_eq_some_iff.1 h.arr).1))⟩, fun k hk => q2 k (.inr hk), q1.low⟩
theorem Thr.dirty (h : Thr w0 wr O g c bf p hs H n x d) (hs0 : x.soiled = []) : Calls Try.prog 17 #[at0 c] wr fun e w' => ∃ A cc, e = .returned (.slice A 0 cc) ∧ Below wr.heap.size wr w' := by
  refine (Dirty_any h.lw.cd.cache).mono ?_
  rintro e w' ⟨v, rfl, hown, hb⟩
  obtain ⟨A, cc, rfl, _⟩ := hown.ints
  have : upward (x.those fun f => f.dirty) = [] := hs0
  rw [this]
  exact ⟨A, cc, rfl, hb⟩
end
end Go.Proofs.Ytfjcblppmoomdaa
