/-
  Flows: plain, in memory, as arguments.
-/
import Derived.Test.YtcandokefhbneaaAdC
namespace Go.Proofs.Ytcandokefhbneaa
open Go.RowKit
/-- A flow; a packet. -/
structure Fl where
  src : Ad
  dst : Ad
  sport : Nat
  dport : Nat
  proto : UInt8
def Fl.zero : Fl := ⟨Ad.zero, Ad.zero, 0, 0, 0⟩
def Fl.back (f : Fl) : Fl := ⟨f.dst, f.src, f.dport, f.sport, f.proto⟩
def Fl.Wide (f : Fl) : Prop := f.src.Wide ∧ f.dst.Wide ∧ f.sport < 65536 ∧ f.dport < 65536
/-- A flow's cells, and its value. -/
def flC (f : Fl) : List Value := adC f.src ++ (adC f.dst ++ [.int .u16 (f.sport : Int), .int .u16 (f.dport : Int), .int .u8 (f.proto.toNat : Int)])
abbrev flV (f : Fl) : Value := .agg (flC f).toArray
theorem flC_length {f : Fl} (hf : f.Wide) : (flC f).length = 37 := by simp [flC, adC_length hf.1, adC_length hf.2.1]
theorem flC_one (f : Fl) : ∀ u ∈ flC f, u.oneCell' = true := by
  intro u hu
  rcases List.mem_append.1 hu with hu | hu
  · exact adC_one _ u hu
  · rcases List.mem_append.1 hu with hu | hu
    · exact adC_one _ u hu
    · simp at hu
      rcases hu with rfl | rfl | rfl <;> rfl
noncomputable instance : DecidableEq Fl := fun _ _ => Classical.propDecidable _
theorem Fl.zero_wide : Fl.zero.Wide := ⟨rfl, rfl, by decide, by decide⟩
def FlAt (w : World) (g : Nat) (f : Fl) : Prop := w.heap[g]? = some (.cells (flC f).toArray 34 (0, 0))
theorem FlAt.below {w w' : World} {g B : Nat} {h : Fl} (hg : FlAt w g h) (hb : Below B w w') (hB : g < B) : FlAt w' g h := (hb.block g hB).trans hg
theorem zero_fl (w : World) : (zeroValue 34).run Try.prog w = .ok (flV Fl.zero) w := by
  rw [Try.zeroValue34]
  simp [flC, Fl.zero, adC, Ad.zero, cellsB]
theorem info_fl {f : Fl} (hf : f.Wide) : (Try.prog.info? 34).map (·.size) = some (flC f).length := by rw [flC_length hf]; kernel_rfl
theorem info_flA {f : Fl} (hf : f.Wide) : (Try.prog.info? 34).map (·.size) = some (flC f).toArray.size := by rw [List.size_toArray]; exact info_fl hf
/-- A whole struct, stored over another one of its kind. -/
theorem store_rows {w : World} {g n : Nat} {t : TypeId} {a b : List Value} (hg : w.heap[g]? = some (.cells a.toArray t (0, 0))) (ha : a.length = n) (hb : b.length = n) (ho : ∀ u ∈ b, u.oneCell' = true) (hs : (Try.prog.info? t).map (·.size) = some n) : ∃ w', (Instr.storeAt t (.pointer (some ⟨g, 0, none⟩)) (.agg b.toArray)).run Try.prog w = .ok () w' ∧ w'.heap[g]? = some (.cells b.toArray t (0, 0)) ∧ w.grownBy w' (some g) ∧ w'.heap.size = w.heap.size ∧ (storeCells ⟨g, 0, none⟩ b).run Try.prog w = .ok () w' := by
  have h := run_storeCells_at Try.prog g 0 t b 0 a.toArray w hg (by simp [ha, hb]) ho
  have e : a.take 0 ++ b ++ a.drop (0 + b.length) = b := by simp [ha, hb]
  simp only [Nat.add_zero] at h
  rw [e] at h
  cases hq : Try.prog.info? t with
  | none => simp [hq] at hs
  | some i =>
    have hi : i.size = n := by simpa [hq] using hs
    refine ⟨w.setRow g b.toArray, ?_, ?_, ⟨rfl, rfl, rfl, by simp, fun k hk hne => setRow_other w g k _ (fun e => hne (by rw [e]))⟩, by simp, h⟩
    · simp only [Instr.storeAt, Instr.sureAddr, Sem.run_bind, Sem.run_pure, Result.andThen_ok, storeVar, sizeOf, typeInfo]
      simp [hq, Value.cells, hi, h, hb]
    · exact setRow_heap w g a.toArray b.toArray _ (0, 0) hg
theorem store_fl {w : World} {g : Nat} {a b : Fl} (hg : FlAt w g a) (ha : a.Wide) (hb : b.Wide) : ∃ w', (Instr.storeAt 34 (.pointer (some ⟨g, 0, none⟩)) (flV b)).run Try.prog w = .ok () w' ∧ FlAt w' g b ∧ w.grownBy w' (some g) ∧ w'.heap.size = w.heap.size ∧ (storeCells ⟨g, 0, none⟩ (flC b)).run Try.prog w = .ok () w' :=
  store_rows hg (flC_length ha) (flC_length hb) (flC_one b) (by kernel_rfl)
theorem flC_src {a : Fl} {w : World} {g : Nat} (hg : FlAt w g a) : w.rangeAt g 0 (adC a.src) := rangeAt_block hg fun j u hu => by
  have hj := (List.getElem?_eq_some_iff.1 hu).1
  rw [flC, List.getElem?_append_left (by omega), Nat.zero_add]
  exact hu
theorem flC_dst {a : Fl} (ha : a.Wide) {w : World} {g : Nat} (hg : FlAt w g a) : w.rangeAt g 17 (adC a.dst) := rangeAt_block hg fun j u hu => by
  have hj := (List.getElem?_eq_some_iff.1 hu).1
  have l1 := adC_length ha.1
  rw [flC, List.getElem?_append_right (by omega), l1, show 17 + j - 17 = j by omega, List.getElem?_append_left (by omega)]
  exact hu
theorem flC_rest {a : Fl} (ha : a.Wide) {w : World} {g : Nat} (hg : FlAt w g a) : w.cell? ⟨g, 34, none⟩ = some (.int .u16 (a.sport : Int)) ∧ w.cell? ⟨g, 35, none⟩ = some (.int .u16 (a.dport : Int)) ∧ w.cell? ⟨g, 36, none⟩ = some (.int .u8 (a.proto.toNat : Int)) := by
  have l1 := adC_length ha.1
  have l2 := adC_length ha.2.1
  have h : ∀ k, k < 3 → (flC a)[34 + k]? = [Value.int .u16 (a.sport : Int), .int .u16 (a.dport : Int), .int .u8 (a.proto.toNat : Int)][k]? := fun k hk => by
    rw [flC, List.getElem?_append_right (by omega), l1, List.getElem?_append_right (by omega), l2, show 34 + k - 17 - 17 = k by omega]
  refine ⟨?_, ?_, ?_⟩
  · rw [cell_of_row w g 34 _ _ _ hg]; exact (by simpa using h 0 (by omega))
  · rw [cell_of_row w g 35 _ _ _ hg]; exact (by simpa using h 1 (by omega))
  · rw [cell_of_row w g 36 _ _ _ hg]; exact (by simpa using h 2 (by omega))
end Go.Proofs.Ytcandokefhbneaa
