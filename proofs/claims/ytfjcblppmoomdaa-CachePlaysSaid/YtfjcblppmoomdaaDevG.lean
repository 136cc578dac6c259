/-
  Waiting, on a device: its contract.
-/
import Derived.Test.YtfjcblppmoomdaaDevF
import Derived.Test.YtfjcblppmoomdaaIter
namespace Go.Proofs.Ytfjcblppmoomdaa
open Go.RowKit Go.Maps Go.Sort Go.Shelf
theorem sortsA (m : Nat) : AnyZI.SortsIn Try.prog sortedA_ren Fence.wide m :=
  ⟨fun blk off cap ss W hH hblk hsz => callsIn_wide.2 (AnyM.slices_Sort_int sortA blk off cap ss W hH hblk hsz),
   fun p cap W => callsIn_wide.2 (AnyM.slices_Sort_int_none sortA p cap W)⟩
theorem keysA_any (mb : Option Nat) (W : World) : Calls Try.prog 67 #[.map mb] W fun e w' => e = .returned (.func (.func 73) #[] #[.pointer (some ⟨W.heap.size, 0, none⟩)]) ∧ W.alloc (.cells #[.map mb] 65) = w' := by
  have h : CallsIn Fence.wide 5 Try.prog 67 #[.map mb] W fun e w' => e = .returned (.func (.func 73) #[] #[.pointer (some ⟨W.heap.size, 0, none⟩)]) ∧ w' = W.alloc (.cells #[.map mb] 65) := AnyZI.keys_in keysA Fence.wide 5 trivial rfl mb W
  exact (callsIn_wide.1 h).mono fun e w' ⟨h1, h2⟩ => ⟨h1, h2.symm⟩
theorem sortedA_any {H : Type} (b nn : Nat) (D0 : DataW H) (R : Value → Option (DataW H × List MemPlace)) (w : World) (hown : w.ownsMap Try.prog 3 R b nn D0) (hmax : Maps.size D0 ≤ maxLen) (hbytes : Maps.size D0 * 8 ≤ 140737488355328) :
    Calls Try.prog 66 #[.func (.func 73) #[] #[.pointer (some ⟨w.heap.size, 0, none⟩)]] (w.alloc (.cells #[.map (some b)] 65)) fun e w' => ∃ (v : Value) (ss : List Int), e = .returned v ∧ ss.Perm (intKeys D0) ∧
      w'.ownsRow (w.heap.size + 1) 3 1 v ss.length ((ss.mergeSort (fun x y => decide (x ≤ y))).map encZ) ∧ (v = .slice none 0 0 ↔ ss = []) ∧ Below (w.heap.size + 1) (w.alloc (.cells #[.map (some b)] 65)) w' := by
  have hbl := hown.lt
  have hseq : SeqGives Fence.wide 2 Try.prog 73 #[.pointer (some ⟨w.heap.size, 0, none⟩)] encZ (fun ss => ss.Perm (intKeys D0)) (Maps.size D0) (w.alloc (.cells #[.map (some b)] 65)) :=
    AnyZI.keys_gives (ρ := keysA_ren) { keysA with } Fence.wide _ trivial rfl (by omega) w.heap.size b nn D0 _ (by simp) (by simp) (by
      obtain ⟨es, clock, hb, Ft, hs, hD⟩ := hown
      exact ⟨es, clock, (Below.heap_alloc _ _ b hbl).trans hb, Ft, hs, hD⟩)
  have cS := AnyZI.sorted_in sortedA Fence.wide 5 trivial trivial trivial trivial rfl (by omega) (sortsA _) (enters_of Try.func60 (by kernel_rfl) rfl) 73 #[.pointer (some ⟨w.heap.size, 0, none⟩)] trivial (enters_of Try.func73 (by kernel_rfl) rfl) _ _ hmax hbytes _ hseq
  change CallsIn _ _ Try.prog 66 _ _ _ at cS
  have := callsIn_wide.1 cS
  simp only [World.size_alloc] at this
  exact this
section
variable {w : World} {F : Nat → Prop} {p bl bm : Nat} {S : Nat → Value} {D : DataW Value} {d : Dev}
set_option maxRecDepth 100000 in
theorem waiting_raw (h : DevIs w F p bl bm S D d) (hn : d.n < 1000000) : Calls Try.prog 51 #[at0 p] w fun e w' => ∃ (v : Value) (ss : List Int), e = .returned v ∧ ss.Perm (intKeys D) ∧
      w'.ownsRow (w.heap.size + 1) 3 1 v ss.length ((ss.mergeSort (fun x y => decide (x ≤ y))).map encZ) ∧ (v = .slice none 0 0 ↔ ss = []) ∧ Below w.heap.size w w' := by
  have hsz := h.map.size_le
  have hk := Lib.hid (sortedA_any bm d.n D asHeld w h.map (by unfold maxLen; omega) (by omega))
  have hc9 := h.c9
  clear h hsz
  go_enter Try.func51, Try.ntmps51
  go_wp2_with (first
    | (go_at_call 67; refine (keysA_any _ _).mono ?_; rintro e w' ⟨rfl, rfl⟩)
    | (go_at_call 66; refine hk.out.mono ?_; rintro e w' ⟨v, ss, rfl, hS, hrow, hnil, hb⟩))
  go_ret
  exact ⟨v, ss, rfl, hS, hrow, hnil, ((Below.refl _ w).alloc (Nat.le_refl _) _).trans (hb.mono (by omega))⟩
/-- The sectors for which something waits, rising. -/
def Dev.waits (d : Dev) : List Nat := (List.range d.L.length).filter fun i => !(d.Q i).isEmpty
theorem mem_waits {i : Nat} : i ∈ d.waits ↔ i < d.L.length ∧ d.Q i ≠ [] := by
  simp [Dev.waits]
/-- The cells of whole numbers from 0 on. -/
def cellsN (l : List Nat) : List Value := l.map fun i : Nat => Value.int .i64 (i : Int)
theorem DevIs.sorted (h : DevIs w F p bl bm S D d) {ss : List Int} (hp : ss.Perm (intKeys D)) : ss.mergeSort (fun x y => decide (x ≤ y)) = d.waits.map fun i : Nat => (i : Int) := by
  obtain ⟨es, hD, hpw, hkey⟩ := h.map.entries keyed_int
  have hmem : ∀ q ∈ es, ∃ i : Nat, i < d.L.length ∧ q.1 = keyL i ∧ d.Q i ≠ [] := fun q hq => by
    have h1 : Maps.has D q.1 = true := by
      rw [hD, Maps.has_eq]
      exact List.any_eq_true.2 ⟨q, hq, WideAt.sameKey_self (hkey q hq)⟩
    obtain ⟨i, hi, e⟩ := h.keys _ h1
    rw [e] at h1
    exact ⟨i, hi, e, (h.has i hi).1 h1⟩
  have hnd : (intKeys D).Nodup := by
    rw [hD]
    unfold intKeys
    rw [List.Nodup, List.pairwise_map]
    refine hpw.imp_of_mem fun {a b} ha hb hne e => hne ?_
    obtain ⟨i, _, ea, _⟩ := hmem a ha
    obtain ⟨j, _, eb, _⟩ := hmem b hb
    rw [ea, eb] at e ⊢
    have e2 : (i : Int) = (j : Int) := e
    rw [show i = j by omega]
  have hnd2 : (d.waits.map fun i : Nat => (i : Int)).Nodup := by
    rw [List.Nodup, List.pairwise_map]
    exact ((List.nodup_range).filter _).imp fun {a b} hab e => hab (by omega)
  have hiff : ∀ x, x ∈ intKeys D ↔ x ∈ d.waits.map fun i : Nat => (i : Int) := by
    intro x
    rw [hD]
    unfold intKeys
    rw [List.mem_map, List.mem_map]
    constructor
    · rintro ⟨q, hq, rfl⟩
      obtain ⟨i, hi, e, hw⟩ := hmem q hq
      exact ⟨i, mem_waits.2 ⟨hi, hw⟩, by rw [e]; rfl⟩
    · rintro ⟨i, hi, rfl⟩
      have := mem_waits.1 hi
      have h1 := (h.has i this.1).2 this.2
      rw [hD, Maps.has_eq] at h1
      obtain ⟨q, hq, hs⟩ := List.any_eq_true.1 h1
      exact ⟨q, hq, by rw [WideAt.sameKey_eq hs]; rfl⟩
  have hperm : ss.Perm (d.waits.map fun i : Nat => (i : Int)) := hp.trans ((List.perm_ext_iff_of_nodup hnd hnd2).2 hiff)
  refine List.Perm.eq_of_pairwise (le := fun x y : Int => x ≤ y) (fun a b _ _ h1 h2 => by omega) ?_ ?_ ((List.mergeSort_perm _ _).trans hperm)
  · exact (List.pairwise_mergeSort (by simp; omega) (by simp; omega) ss).imp fun {a b} h => by simpa using h
  · rw [List.pairwise_map]
    exact ((List.pairwise_lt_range).filter _).imp fun {a b} h => by omega
theorem waiting_any (h : DevIs w F p bl bm S D d) (hn : d.n < 1000000) : Calls Try.prog 51 #[at0 p] w fun e w' => ∃ v, e = .returned v ∧ Mine w' (w.heap.size + 1) 3 v (cellsN d.waits) ∧ Below w.heap.size w w' := by
  refine (waiting_raw h hn).mono ?_
  rintro e w' ⟨v, ss, rfl, hp, hrow, _, hb⟩
  rw [h.sorted hp] at hrow
  refine ⟨v, rfl, ?_, hb⟩
  have e1 : (d.waits.map fun i : Nat => (i : Int)).map encZ = cellsN d.waits := by
    rw [List.map_map]
    rfl
  rw [e1] at hrow
  exact Mine.of_own hrow
set_option maxRecDepth 100000 in
theorem waiting_nil (w : World) : Calls Try.prog 51 #[.pointer none] w fun e w' => e = .returned (.slice none 0 0) ∧ w = w' := by
  go_enter Try.func51, Try.ntmps51
  go_wp2_with fail
  go_ret
  exact ⟨rfl, rfl⟩
end
end Go.Proofs.Ytfjcblppmoomdaa
