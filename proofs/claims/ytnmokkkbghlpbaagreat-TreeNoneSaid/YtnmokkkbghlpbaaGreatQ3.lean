/-
  Contracts of the program's functions, one behind the other (texts put together, part 3).
-/
import Derived.Test.YtnmokkkbghlpbaaGreatQ1
import Derived.Test.YtnmokkkbghlpbaaGreatQ2
import Derived.Deep.RegionHeld3
import Derived.StillTailTactics
import Derived.Deep.RegionLaw
import Derived.Lib.AppendZerosOnto
/-
  What is written of a node, as data; number and Encode of package node, by contracts.
-/
namespace Go.Proofs.YtnmokkkbghlpbaaGreat
open Go.RowKit
theorem RdAll.later {w : World} {B b o n c : Nat} {ls : List (List UInt8)} (h : RdAll w B (.slice (some ⟨b, o, none⟩) n c) ls) (hB : B ≤ w.heap.size) {k : Nat} (hk : k < n) :
    ∃ A' m c', m = (ls.getD k []).length ∧ m ≤ c' ∧ c' ≤ 9223372036854775807 ∧ ∀ W, Below w.heap.size w W → W.cell? ⟨b, o + k, none⟩ = some (.slice A' m c') ∧ Rd W w.heap.size (.slice A' m c') (cellsB (ls.getD k [])) ∧
      ∀ gs : List (Option Nat), (∀ g ∈ gs, ∀ k, g = some k → w.heap.size ≤ k) → Far W W.heap.size gs (.slice A' m c') (cellsB (ls.getD k [])) := by
  obtain ⟨A', m, c', hc, hp, hm, h1, h2⟩ := h.cell hk
  refine ⟨A', m, c', hm, h1, h2, fun W hW => ⟨(hW.cell (p := ⟨b, o + k, none⟩) (World.block_lt_of_cell? _ _ hc)).trans hc, (hp.more hB).below hW, fun gs hg => (((hp.more hB).below hW).far hg).more hW.size⟩⟩
set_option maxRecDepth 100000 in
set_option maxHeartbeats 400000 in
theorem number_any (x s : Nat) (w : World) (hx : x ≤ 1000000) (h1 : 1 ≤ s) (h2 : s ≤ 8) :
    Calls Tryz.prog 146 #[.int .i64 (x : Int), .int .i64 (s : Int)] w fun e w' => ∃ A c, e = .returned (.slice A s c) ∧ Mine w' w.heap.size 5 (.slice A s c) (cellsB (be s x)) ∧ Below w.heap.size w w' := by
  have hp := put_yes none 0 [] x s w 0 (Rd.nil _ _) (Nat.zero_le _) (by simp) h1 h2
  rw [List.nil_append] at hp
  have HP := Lib.hid hp
  clear hp
  go_enter Tryz.func146, Tryz.ntmps146
  go_wp2_with (go_at_call 178; refine HP.out.mono ?_; rintro e w' ⟨v', rfl, hown, hb⟩)
  go_ret
  obtain ⟨A, c, rfl⟩ := hown.form
  rw [cellsB_length, be_length] at hown ⊢
  exact ⟨A, c, rfl, hown, hb⟩
/-- A row of the call's own lies above what was there. -/
theorem OwnAll.above {w : World} {B : Nat} {v : Value} {ls : List (List UInt8)} (h : OwnAll w (B + 1) v ls) : ∀ g ∈ [v.ownBlock], ∀ k, g = some k → B ≤ k := fun g hg k e => by
  rw [List.mem_singleton] at hg
  subst hg
  have := (h.block k e).1
  omega
theorem Mine.farAll {w w' : World} {e : TypeId} {v x : Value} {xs : List Value} {base : Nat} {ls : List (List UInt8)} (h : Mine w' w.heap.size e x xs) (ho : OwnAll w base v ls) : Far w' w'.heap.size [v.ownBlock] x xs :=
  h.far fun g hg k e => by
    rw [List.mem_singleton] at hg
    subst hg
    exact (ho.block k e).2
/-- What stands ahead of the cells. -/
def Nd.head (n : Nd) : List (List UInt8) := be 1 n.keys.length :: (if n.leaf then [] else [be 2 (n.kids.getD 0 0).toNat])
/-- The parts of cell i. -/
def Nd.cellParts (n : Nd) (i : Nat) : List (List UInt8) :=
  [be 1 (n.keys.getD i []).length, n.keys.getD i []] ++ (if n.leaf then [be 1 (n.vals.getD i []).length, n.vals.getD i []] else [be 2 (n.kids.getD (i + 1) 0).toNat])
/-- All parts up to the first k cells. -/
def Nd.parts (n : Nd) : Nat → List (List UInt8)
  | 0 => n.head
  | k + 1 => n.parts k ++ n.cellParts k
/-- What is written of a node. -/
def Nd.bytes (n : Nd) : List UInt8 := (n.parts n.keys.length).flatten
theorem Nd.parts_len (n : Nd) : ∀ k, (n.parts k).length ≤ 2 + 4 * k
  | 0 => by unfold Nd.parts Nd.head; split <;> simp
  | k + 1 => by
    have := n.parts_len k
    unfold Nd.parts Nd.cellParts
    rw [List.length_append]
    split <;> simp <;> omega
theorem Nd.parts_size (n : Nd) : ∀ k, (n.parts k).flatten.length = (if n.leaf then 1 else 3) + n.cells k
  | 0 => by
    unfold Nd.parts Nd.head Nd.cells
    split <;> simp [be_length]
  | k + 1 => by
    have := n.parts_size k
    unfold Nd.parts Nd.cellParts Nd.cells Nd.cell
    rw [List.flatten_append, List.length_append, this]
    split <;> simp [be_length] <;> omega
theorem Nd.bytes_len (n : Nd) : n.bytes.length = n.size := n.parts_size _
theorem Nd.parts_leaf {n : Nd} (h : n.leaf = true) (k : Nat) : n.parts (k + 1) = (n.parts k ++ [be 1 (n.keys.getD k []).length, n.keys.getD k []]) ++ [be 1 (n.vals.getD k []).length, n.vals.getD k []] := by
  rw [Nd.parts, Nd.cellParts, if_pos h, List.append_assoc]
theorem Nd.parts_not {n : Nd} (h : n.leaf = false) (k : Nat) : n.parts (k + 1) = (n.parts k ++ [be 1 (n.keys.getD k []).length, n.keys.getD k []]) ++ [be 2 (n.kids.getD (k + 1) 0).toNat] := by
  rw [Nd.parts, Nd.cellParts, if_neg (by simp [h]), List.append_assoc]

set_option maxRecDepth 100000 in
set_option maxHeartbeats 1000000 in
theorem encode_form {n : Nd} {K V D : Value} {w : World} {B : Nat} (hr : NdIs w B K V D n) (hB : B ≤ w.heap.size) (hsh : n.Short 1000000) (hno : ¬ n.Snd ∨ 255 < n.keys.length) :
    Calls Tryz.prog 118 #[ndVal n.leaf K V D] w fun e w' => e = .returned (.tuple #[.slice none 0 0, .int .i64 4]) ∧ Below w.heap.size w w' := by
  have hsnd := fun (W : World) (hb : Below w.heap.size w W) => sound_any (hr.below (hb.mono hB)) (Nat.le_trans hB hb.size) hsh
  have hn := hsh.1
  obtain ⟨A1, c1, A2, c2, A3, c3, rfl, rfl, rfl⟩ := hr.form
  obtain ⟨lf, hlf⟩ : ∃ lf, lf = n.leaf := ⟨_, rfl⟩
  obtain ⟨a, ha⟩ : ∃ a, a = n.keys.length := ⟨_, rfl⟩
  rw [← hlf] at hsnd ⊢
  rw [← ha] at hsnd hn hno ⊢
  have hb0 : Below w.heap.size w (w.alloc (.cells #[.bool lf, .slice A1 a c1, .slice A2 n.vals.length c2, .slice A3 n.kids.length c3] 126)) := (Below.refl _ _).alloc (Nat.le_refl _) _
  have hbox := NdBox.made w lf (.slice A1 a c1) (.slice A2 n.vals.length c2) (.slice A3 n.kids.length c3)
  have h1 := hsnd _ hb0
  have HB := Lib.hid hb0
  have HX := Lib.hid hbox
  by_cases hs : n.Snd
  · have hl : 255 < a := by rcases hno with h | h; exact absurd hs h; exact h
    have hli : (255 : Int) < (a : Int) := by omega
    rw [sndB_iff.2 hs] at h1
    clear hb0 hbox hsnd hr hB hlf ha hs hno hl
    go_enter Tryz.func118, Tryz.ntmps118
    go_wp2_with (go_at_call 76; refine h1.mono ?_; rintro e w1 ⟨rfl, hb⟩; obtain ⟨x0, x1, x2, x3⟩ := HX.out.later HX.out.lt hb; have Hb1 := Lib.hid (up HB.out hb); clear hb h1)
    go_ret2
    exact ⟨rfl, Hb1.out⟩
  · rw [sndB_not hs] at h1
    clear hb0 hbox hsnd hr hB hlf ha hs hno
    go_enter Tryz.func118, Tryz.ntmps118
    go_wp2_with (go_at_call 76; refine h1.mono ?_; rintro e w1 ⟨rfl, hb⟩; obtain ⟨x0, x1, x2, x3⟩ := HX.out.later HX.out.lt hb; have Hb1 := Lib.hid (up HB.out hb); clear hb h1)
    go_ret2
    exact ⟨rfl, Hb1.out⟩
set_option maxRecDepth 100000 in
set_option maxHeartbeats 1000000 in
theorem encode_long {n : Nd} {K V D : Value} {w : World} {B : Nat} (hr : NdIs w B K V D n) (hB : B ≤ w.heap.size) (hsh : n.Short 1000000) (hs : n.Snd) (hk : n.keys.length ≤ 255) (hlong : 232 < n.size) :
    Calls Tryz.prog 118 #[ndVal n.leaf K V D] w fun e w' => e = .returned (.tuple #[.slice none 0 0, .int .i64 10]) ∧ Below w.heap.size w w' := by
  have hsnd := fun (W : World) (hb : Below w.heap.size w W) => sound_any (hr.below (hb.mono hB)) (Nat.le_trans hB hb.size) hsh
  have hsize := fun (W : World) (hb : Below w.heap.size w W) => size_any (hr.below (hb.mono hB)) (Nat.le_trans hB hb.size) hs hsh
  obtain ⟨A1, c1, A2, c2, A3, c3, rfl, rfl, rfl⟩ := hr.form
  obtain ⟨lf, hlf⟩ : ∃ lf, lf = n.leaf := ⟨_, rfl⟩
  obtain ⟨a, ha⟩ : ∃ a, a = n.keys.length := ⟨_, rfl⟩
  obtain ⟨z, hz⟩ : ∃ z, z = n.size := ⟨_, rfl⟩
  rw [← hlf] at hsnd hsize ⊢
  rw [← hz] at hsize hlong
  rw [← ha] at hsnd hk hsize ⊢
  have hb0 : Below w.heap.size w (w.alloc (.cells #[.bool lf, .slice A1 a c1, .slice A2 n.vals.length c2, .slice A3 n.kids.length c3] 126)) := (Below.refl _ _).alloc (Nat.le_refl _) _
  have hbox := NdBox.made w lf (.slice A1 a c1) (.slice A2 n.vals.length c2) (.slice A3 n.kids.length c3)
  have h1 := hsnd _ hb0
  rw [sndB_iff.2 hs] at h1
  have HB := Lib.hid hb0
  have HX := Lib.hid hbox
  have HZ := Lib.hid hsize
  have hk2 : (a : Int) ≤ 255 := by omega
  have hlong2 : (232 : Int) < (z : Int) := by omega
  clear hb0 hbox hsnd hsize hr hB hlf ha hs hz hk hlong hsh
  go_enter Tryz.func118, Tryz.ntmps118
  go_wp2_with (go_at_call 76; refine h1.mono ?_; rintro e w1 ⟨rfl, hb⟩; obtain ⟨x0, x1, x2, x3⟩ := HX.out.later HX.out.lt hb; have Hb1 := Lib.hid (up HB.out hb); clear hb h1)
  refine (HZ.out _ Hb1.out).mono ?_
  rintro e w2 ⟨rfl, hb⟩
  have Hb2 := Lib.hid (up Hb1.out hb)
  clear hb
  go_wp2_with fail
  go_ret2
  exact ⟨rfl, Hb2.out⟩
end Go.Proofs.YtnmokkkbghlpbaaGreat
/-
  Encode of package node of what fits, by contract.
-/
namespace Go.Proofs.YtnmokkkbghlpbaaGreat
open Go.RowKit
set_option maxRecDepth 100000 in
set_option maxHeartbeats 2000000 in
theorem encode_leaf {n : Nd} {K V D : Value} {w : World} {B : Nat} (hr : NdIs w B K V D n) (hB : B ≤ w.heap.size) (hsh : n.Short 1000000) (hs : n.Snd) (hl : n.leaf = true) (hk : n.keys.length ≤ 255) (hfit : n.size ≤ 232) :
    Calls Tryz.prog 118 #[ndVal true K V D] w fun e w' => ∃ v, e = .returned (.tuple #[v, .int .i64 0]) ∧ Mine w' w.heap.size 5 v (cellsB n.bytes) ∧ Below w.heap.size w w' := by
  obtain ⟨ti, hi, hz0, hz1, hz2⟩ := info_parts info_row
  have hsnd := fun (W : World) (hb : Below w.heap.size w W) => sound_any (hr.below (hb.mono hB)) (Nat.le_trans hB hb.size) hsh
  have hsize := fun (W : World) (hb : Below w.heap.size w W) => size_any (hr.below (hb.mono hB)) (Nat.le_trans hB hb.size) hs hsh
  have hkey := fun (W : World) (hb : Below w.heap.size w W) (i : Nat) (hi : i < n.keys.length) => (hs.keys i hi).1.2
  have hval := fun (i : Nat) (hi : i < n.keys.length) => hs.vals i (by rw [(hs.ofLeaf hl).2]; exact hi)
  obtain ⟨A1, c1, A2, c2, A3, c3, rfl, rfl, rfl⟩ := hr.form
  have hvl := (hs.ofLeaf hl).2
  rw [hvl] at hsnd hsize hr ⊢
  have hparts := n.parts_len
  have hps := n.parts_size n.keys.length
  have hfl : (n.parts n.keys.length).flatten.length ≤ 1000000000 := by rw [hps]; have : n.size ≤ 232 := hfit; unfold Nd.size at this; omega
  have hstep := Nd.parts_leaf hl
  have hhead : n.parts 0 = [be 1 n.keys.length] := by unfold Nd.parts Nd.head; rw [if_pos hl]
  have hbytes : n.bytes = (n.parts n.keys.length).flatten := rfl
  obtain ⟨a, ha⟩ : ∃ a, a = n.keys.length := ⟨_, rfl⟩
  obtain ⟨z, hz⟩ : ∃ z, z = n.size := ⟨_, rfl⟩
  rw [← hz] at hsize hfit
  rw [hl] at hsnd hsize
  rw [← ha] at hsnd hsize hk hr hkey hval hfl hhead hbytes ⊢
  have hb0 : Below w.heap.size w (w.alloc (.cells #[.bool true, .slice A1 a c1, .slice A2 a c2, .slice A3 n.kids.length c3] 126)) := (Below.refl _ _).alloc (Nat.le_refl _) _
  have hbox := NdBox.made w true (.slice A1 a c1) (.slice A2 a c2) (.slice A3 n.kids.length c3)
  have h1 := hsnd _ hb0
  rw [sndB_iff.2 hs] at h1
  have HB := Lib.hid hb0
  have HX := Lib.hid hbox
  have HZ := Lib.hid hsize
  have HR := Lib.hid hr
  have HK := Lib.hid hkey
  have HV := Lib.hid hval
  have HP := Lib.hid hparts
  have HFL := Lib.hid hfl
  have HST := Lib.hid hstep
  have HH := Lib.hid hhead
  have HBY := Lib.hid hbytes
  have HBw := Lib.hid hB
  have hk2 : (a : Int) ≤ 255 := by omega
  have hfit2 : (z : Int) ≤ 232 := by omega
  clear hb0 hbox hsnd hsize hr hB ha hs hz hsh hkey hval hparts hfl hps hstep hhead hbytes hfit hl hvl
  go_enter Tryz.func118, Tryz.ntmps118
  go_wp2_with (go_at_call 76; refine h1.mono ?_; rintro e w1 ⟨rfl, hb⟩; obtain ⟨x0, x1, x2, x3⟩ := HX.out.later HX.out.lt hb; have Hb1 := Lib.hid (up HB.out hb); clear hb h1)
  have HX1 := Lib.hid (NdBox.mk x0 x1 x2 x3)
  refine (HZ.out _ Hb1.out).mono ?_
  rintro e w2 ⟨rfl, hb⟩
  clear x0 x1 x2 x3
  have HX2 := Lib.hid (HX1.out.later HX1.out.lt hb)
  obtain ⟨x0, x1, x2, x3⟩ := HX2.out
  have Hb2 := Lib.hid (up Hb1.out hb)
  clear hb
  go_wp2_with fail
  refine (number_any a 1 w2 (by omega) (by omega) (by omega)).mono ?_
  rintro e w3 ⟨Av3, cv3, rfl, hown3, hb⟩
  clear x0 x1 x2 x3
  have HX3 := Lib.hid (HX2.out.later HX2.out.lt hb)
  have Hb3 := Lib.hid (up Hb2.out hb)
  have Hrow := Lib.hid (OwnAll.lit1 (base := w.heap.size + 1) (w := w3) HX3.out.lt ((hown3.far (gs := []) (fun g hg => by simp at hg))))
  have HX4 := Lib.hid (HX3.out.later HX3.out.lt ((Below.refl w3.heap.size w3).alloc (Nat.le_refl _) (.cells #[.slice Av3 1 cv3] 31)))
  have Hb4 := Lib.hid (up_alloc Hb3.out (.cells #[.slice Av3 1 cv3] 31))
  obtain ⟨x0, x1, x2, x3⟩ := HX4.out
  clear hb hown3
  go_wp2_with fail
  have Hrow0 : Hid (OwnAll (w3.alloc (.cells #[.slice Av3 1 cv3] 31)) (w.heap.size + 1) (.slice (some ⟨w3.heap.size, 0, none⟩) 1 1) (n.parts 0)) := Lib.hid (by rw [HH.out]; exact Hrow.out)
  clear Hrow x0 x1 x2 x3
  go_loopw [4, 38] (fun pv iv wr => ∃ k : Nat, k ≤ a ∧ iv = .int .i64 (k : Int) ∧ Hid (OwnAll wr (w.heap.size + 1) pv (n.parts k) ∧ NdBox wr w.heap.size true (.slice A1 a c1) (.slice A2 a c2) (.slice A3 n.kids.length c3) ∧ Below w.heap.size w wr)) (fun _ iv _ => a - (intOf iv).toNat)
  case atStart => exact ⟨0, Nat.zero_le _, rfl, Lib.hid ⟨Hrow0.out, HX4.out, Hb4.out⟩⟩
  case round =>
    obtain ⟨k, hk1, rfl, HI⟩ := hrel
    by_cases hlt : k < a
    · obtain ⟨b, o, rfl, _⟩ := HR.out.keys.addr (by omega)
      obtain ⟨A', m, c', hm, hmc, hmx, hkl⟩ := HR.out.keys.later HBw.out hlt
      obtain ⟨b2, o2, rfl, _⟩ := HR.out.vals.addr (by omega)
      obtain ⟨A2', m2, c2', hm2, hmc2, hmx2, hvl⟩ := HR.out.vals.later HBw.out hlt
      have hm24 : m ≤ 24 := by rw [hm]; exact HK.out w (Below.refl _ _) k hlt
      have hm224 : m2 ≤ 24 := by rw [hm2]; exact HV.out k hlt
      have hc := (hkl wr HI.out.2.2).1
      have Hkl := Lib.hid hkl
      have Hvl := Lib.hid hvl
      have Hm := Lib.hid hm
      have Hm2 := Lib.hid hm2
      have hk0 : (0 : Int) ≤ (k : Int) := by omega
      have hka : (k : Int) < (a : Int) := by omega
      have htk : (k : Int).toNat = k := by omega
      clear hm hm2 hkl hvl
      go_wp2_with fail
      refine (number_any m 1 wr (by omega) (by omega) (by omega)).mono ?_
      rintro e w5 ⟨Av5, cv5, rfl, hown5, hb5⟩
      have Hf5 := Lib.hid (hown5.farAll HI.out.1)
      have HX5 := Lib.hid (HI.out.2.1.later HI.out.2.1.lt hb5)
      have Ho5 := Lib.hid (HI.out.1.kept hb5)
      have Hb5 := Lib.hid (up HI.out.2.2 hb5)
      have Hkf := Lib.hid (((Hkl.out w5 Hb5.out).2.2 _ HI.out.1.above))
      clear hown5 hb5
      go_wp2_with (at_builtin; refine wpList_append_all rfl (.tmp 43) (.tmp 48) 56 rfl (w.heap.size + 1) ti _ Tryz.underlying56 hi hz0 hz1 hz2 rfl u4 (n.parts k) rfl (Ho5.out.alloc _) (w5.heap.size + 1) _ _ rfl (FarAll.lit2 Hf5.out Hkf.out _) (by simp) (by have := HP.out k; simp; omega) (by have := HX5.out.lt; simp; omega) ?_; intro v6 w6 hown6 hb6; have Hb6 := Lib.hid ((up_alloc Hb5.out (.cells #[.slice Av5 1 cv5, .slice A' m c'] 31)).trans (hb6.mono (Nat.le_succ _))); have HX6 := Lib.hid ((HX5.out.later HX5.out.lt ((Below.refl w5.heap.size w5).alloc (Nat.le_refl _) (.cells #[.slice Av5 1 cv5, .slice A' m c'] 31))).later (Nat.lt_succ_self _) hb6); obtain ⟨x0, x1, x2, x3⟩ := HX6.out)
      have Ho6 : Hid (OwnAll w6 (w.heap.size + 1) v6 (n.parts k ++ [be 1 (n.keys.getD k []).length, n.keys.getD k []])) := Lib.hid (by rw [← Hm.out]; exact hown6)
      have HS := Lib.hid (fun (w' : World) (h : Below (w.heap.size + 1) w6 w') => (⟨(h.cell (p := ⟨w.heap.size, 2, none⟩) (Nat.lt_succ_self _)).trans x2, (Hvl.out w' (Hb6.out.trans (h.mono (Nat.le_succ _)))).1⟩ : w'.cell? ⟨w.heap.size, 2, none⟩ = some (.slice (some ⟨b2, o2, none⟩) a c2) ∧ w'.cell? ⟨b2, o2 + k, none⟩ = some (.slice A2' m2 c2')))
      have S6 := Lib.hid (HS.out _ ((Below.refl (w.heap.size + 1) w6).drew))
      clear hown6 hb6 hc x0 x1 x2 x3
      go_region_held3 (fun w' => w'.cell? ⟨w.heap.size, 2, none⟩ = some (.slice (some ⟨b2, o2, none⟩) a c2) ∧ w'.cell? ⟨b2, o2 + k, none⟩ = some (.slice A2' m2 c2'))
        (first | exact S9.out | exact S8.out | exact S7.out | exact S6.out)
        (first
        | (go_at_call 146; refine (number_any m2 1 w6.drew (by omega) (by omega) (by omega)).mono ?_; rintro e w7 ⟨Av7, cv7, rfl, hown7, hb7⟩; have Hb7 := Lib.hid ((up_drew (Below.refl w6.heap.size w6)).trans hb7); have S7 := Lib.hid (HS.out _ (Hb7.out.mono HX6.out.lt)); have S8 := Lib.hid (HS.out _ ((up_alloc Hb7.out (.cells #[.slice Av7 1 cv7, .slice A2' m2 c2'] 31)).mono HX6.out.lt)); have Ho7 := Lib.hid (Ho6.out.kept Hb7.out); have Hf7 := Lib.hid (hown7.farAll Ho6.out); clear hown7 hb7)
        | (refine step_append_all rfl (.tmp 52) (.tmp 65) 56 (by rfl) (w.heap.size + 1) ti _ Tryz.underlying56 hi hz0 hz1 hz2 rfl v6 _ (by rfl) (Ho7.out.alloc _) (w7.heap.size + 1) _ _ (by rfl) (FarAll.lit2 Hf7.out ((Hvl.out w7 (up Hb6.out Hb7.out)).2.2 _ Ho6.out.above) _) (by simp) (by have := HP.out k; simp; omega) (by have := HX6.out.lt; have := Hb7.out.size; simp; omega) ?_; intro v9 w9 hown9 hb9; have Hb9 := Lib.hid (((up_alloc Hb7.out (.cells #[.slice Av7 1 cv7, .slice A2' m2 c2'] 31)).mono HX6.out.lt).trans hb9); have S9 := Lib.hid (HS.out _ Hb9.out)))
      go_wp2_with fail
      go_roundw
      case rel =>
        refine ⟨k + 1, by omega, by go_num, Lib.hid ⟨?_, HX6.out.later (Nat.lt_succ_self _) Hb9.out, Hb6.out.trans (Hb9.out.mono (Nat.le_succ _))⟩⟩
        rw [HST.out k, ← Hm2.out]
        exact hown9
      case measure => simp [intOf]; omega
    · have : k = a := by omega
      subst this
      obtain ⟨Ap, cp, rfl⟩ := HI.out.1.form
      have hrd := HI.out.1.rd
      have hby := bytes_any Ap _ cp _ wr wr.heap.size hrd (Nat.le_refl _) HFL.out
      rw [← HBY.out] at hby
      obtain ⟨np, hnp⟩ : ∃ np, np = (n.parts k).length := ⟨_, rfl⟩
      rw [← hnp] at hby ⊢
      have HBc := Lib.hid hby
      clear hby hrd hnp
      go_wp2_with (go_at_call 137; refine HBc.out.mono ?_; rintro e w9 ⟨v9, rfl, hown9, hb9⟩)
      go_ret2
      exact ⟨_, rfl, hown9.weaken HI.out.2.2.size, up HI.out.2.2 hb9⟩
end Go.Proofs.YtnmokkkbghlpbaaGreat
/-
  Encode of package node of what fits and is no leaf, by contract.
-/
namespace Go.Proofs.YtnmokkkbghlpbaaGreat
open Go.RowKit
/-- The kid at place k of a sound node, in whatever later world. -/
theorem Rd.laterI {w : World} {B b o n c : Nat} {l : List Int} (h : Rd w B (.slice (some ⟨b, o, none⟩) n c) (cellsI l)) (hok : KidsOk l) {k : Nat} (hk : k < n) :
    ∃ x : Nat, (x : Int) = l.getD k 0 ∧ x < 1600 ∧ ∀ W, Below w.heap.size w W → W.cell? ⟨b, o + k, none⟩ = some (.int .i64 (x : Int)) := by
  have hc := h.cellI hk
  have hl := h.lenI.1
  have hd := hok k (by omega)
  obtain ⟨x, hx⟩ := Int.eq_ofNat_of_zero_le hd.1
  have h2 := hd.2
  refine ⟨x, hx.symm, by omega, fun W hW => ?_⟩
  rw [← hx]
  exact (hW.cell (p := ⟨b, o + k, none⟩) (World.block_lt_of_cell? _ _ hc)).trans hc
set_option maxRecDepth 100000 in
set_option maxHeartbeats 2000000 in
theorem encode_not {n : Nd} {K V D : Value} {w : World} {B : Nat} (hr : NdIs w B K V D n) (hB : B ≤ w.heap.size) (hsh : n.Short 1000000) (hs : n.Snd) (hl : n.leaf = false) (hk : n.keys.length ≤ 255) (hfit : n.size ≤ 232) :
    Calls Tryz.prog 118 #[ndVal false K V D] w fun e w' => ∃ v, e = .returned (.tuple #[v, .int .i64 0]) ∧ Mine w' w.heap.size 5 v (cellsB n.bytes) ∧ Below w.heap.size w w' := by
  obtain ⟨ti, hi, hz0, hz1, hz2⟩ := info_parts info_row
  have hsnd := fun (W : World) (hb : Below w.heap.size w W) => sound_any (hr.below (hb.mono hB)) (Nat.le_trans hB hb.size) hsh
  have hsize := fun (W : World) (hb : Below w.heap.size w W) => size_any (hr.below (hb.mono hB)) (Nat.le_trans hB hb.size) hs hsh
  have hkey := fun (i : Nat) (hi : i < n.keys.length) => (hs.keys i hi).1.2
  obtain ⟨A1, c1, A2, c2, A3, c3, rfl, rfl, rfl⟩ := hr.form
  have hdl := (hs.ofNot hl).2.2
  have hkids := hs.kids
  rw [hdl] at hsnd hsize hr ⊢
  have hparts := n.parts_len
  have hps := n.parts_size n.keys.length
  have hfl : (n.parts n.keys.length).flatten.length ≤ 1000000000 := by rw [hps]; have : n.size ≤ 232 := hfit; unfold Nd.size at this; omega
  have hstep := Nd.parts_not hl
  have hhead : n.parts 0 = [be 1 n.keys.length, be 2 (n.kids.getD 0 0).toNat] := by unfold Nd.parts Nd.head; rw [if_neg (by simp [hl])]
  have hbytes : n.bytes = (n.parts n.keys.length).flatten := rfl
  obtain ⟨a, ha⟩ : ∃ a, a = n.keys.length := ⟨_, rfl⟩
  obtain ⟨z, hz⟩ : ∃ z, z = n.size := ⟨_, rfl⟩
  rw [← hz] at hsize hfit
  rw [hl] at hsnd hsize
  rw [← ha] at hsnd hsize hk hr hkey hfl hhead hbytes ⊢
  obtain ⟨b3, o3, rfl, _⟩ := hr.kids.addrI (by omega)
  obtain ⟨y, hy, hy2, hyc⟩ := hr.kids.laterI hkids (k := 0) (by omega)
  rw [← hy] at hhead
  have hb0 : Below w.heap.size w (w.alloc (.cells #[.bool false, .slice A1 a c1, .slice A2 n.vals.length c2, .slice (some ⟨b3, o3, none⟩) (a + 1) c3] 126)) := (Below.refl _ _).alloc (Nat.le_refl _) _
  have hbox := NdBox.made w false (.slice A1 a c1) (.slice A2 n.vals.length c2) (.slice (some ⟨b3, o3, none⟩) (a + 1) c3)
  have h1 := hsnd _ hb0
  rw [sndB_iff.2 hs] at h1
  have HB := Lib.hid hb0
  have HX := Lib.hid hbox
  have HZ := Lib.hid hsize
  have HR := Lib.hid hr
  have HK := Lib.hid hkey
  have HKD := Lib.hid hkids
  have HP := Lib.hid hparts
  have HFL := Lib.hid hfl
  have HST := Lib.hid hstep
  have HH := Lib.hid hhead
  have HBY := Lib.hid hbytes
  have HBw := Lib.hid hB
  have HYC := Lib.hid hyc
  have hk2 : (a : Int) ≤ 255 := by omega
  have hfit2 : (z : Int) ≤ 232 := by omega
  clear hb0 hbox hsnd hsize hr hB ha hs hz hsh hkey hparts hfl hps hstep hhead hbytes hfit hl hdl hkids hy hyc
  go_enter Tryz.func118, Tryz.ntmps118
  go_wp2_with (go_at_call 76; refine h1.mono ?_; rintro e w1 ⟨rfl, hb⟩; obtain ⟨x0, x1, x2, x3⟩ := HX.out.later HX.out.lt hb; have Hb1 := Lib.hid (up HB.out hb); clear hb h1)
  have HX1 := Lib.hid (NdBox.mk x0 x1 x2 x3)
  refine (HZ.out _ Hb1.out).mono ?_
  rintro e w2 ⟨rfl, hb⟩
  clear x0 x1 x2 x3
  have HX2 := Lib.hid (HX1.out.later HX1.out.lt hb)
  obtain ⟨x0, x1, x2, x3⟩ := HX2.out
  have Hb2 := Lib.hid (up Hb1.out hb)
  clear hb
  go_wp2_with fail
  refine (number_any a 1 w2 (by omega) (by omega) (by omega)).mono ?_
  rintro e w3 ⟨Av3, cv3, rfl, hown3, hb⟩
  clear x0 x1 x2 x3
  have HX3 := Lib.hid (HX2.out.later HX2.out.lt hb)
  have Hb3 := Lib.hid (up Hb2.out hb)
  have Hrow := Lib.hid (OwnAll.lit1 (base := w.heap.size + 1) (w := w3) HX3.out.lt ((hown3.far (gs := []) (fun g hg => by simp at hg))))
  have HX4 := Lib.hid (HX3.out.later HX3.out.lt ((Below.refl w3.heap.size w3).alloc (Nat.le_refl _) (.cells #[.slice Av3 1 cv3] 31)))
  have Hb4 := Lib.hid (up_alloc Hb3.out (.cells #[.slice Av3 1 cv3] 31))
  obtain ⟨x0, x1, x2, x3⟩ := HX4.out
  have hyc := HYC.out _ Hb4.out
  rw [Nat.add_zero] at hyc
  clear hb hown3
  go_wp2_with fail
  refine (number_any y 2 _ (by omega) (by omega) (by omega)).mono ?_
  rintro e w14 ⟨Av14, cv14, rfl, hown14, hb⟩
  have Hb14 := Lib.hid (up Hb4.out hb)
  have HX14 := Lib.hid (HX4.out.later HX4.out.lt hb)
  have Ho14 := Lib.hid (Hrow.out.kept hb)
  have Hf14 := Lib.hid (hown14.farAll Hrow.out)
  clear hb hown14 x0 x1 x2 x3 hyc
  go_wp2_with (at_builtin; refine wpList_append_all rfl (.tmp 27) (.tmp 33) 56 rfl (w.heap.size + 1) ti _ Tryz.underlying56 hi hz0 hz1 hz2 rfl (.slice (some ⟨w3.heap.size, 0, none⟩) 1 1) [be 1 a] rfl (Ho14.out.alloc _) (w14.heap.size + 1) _ _ rfl (FarAll.lit1 Hf14.out _) (by simp) (by simp) (by have := HX14.out.lt; simp; omega) ?_; intro v16 w16 hown16 hb16; have Hb16 := Lib.hid ((up_alloc Hb14.out (.cells #[.slice Av14 2 cv14] 31)).trans (hb16.mono (Nat.le_succ _))); have HX16 := Lib.hid ((HX14.out.later HX14.out.lt ((Below.refl w14.heap.size w14).alloc (Nat.le_refl _) (.cells #[.slice Av14 2 cv14] 31))).later (Nat.lt_succ_self _) hb16); obtain ⟨x0, x1, x2, x3⟩ := HX16.out)
  have Hrow0 : Hid (OwnAll w16 (w.heap.size + 1) v16 (n.parts 0)) := Lib.hid (by rw [HH.out]; exact hown16)
  clear Hrow x0 x1 x2 x3 hown16 hb16
  go_loopw [4, 38] (fun pv iv wr => ∃ k : Nat, k ≤ a ∧ iv = .int .i64 (k : Int) ∧ Hid (OwnAll wr (w.heap.size + 1) pv (n.parts k) ∧ NdBox wr w.heap.size false (.slice A1 a c1) (.slice A2 n.vals.length c2) (.slice (some ⟨b3, o3, none⟩) (a + 1) c3) ∧ Below w.heap.size w wr)) (fun _ iv _ => a - (intOf iv).toNat)
  case atStart => exact ⟨0, Nat.zero_le _, rfl, Lib.hid ⟨Hrow0.out, HX16.out, Hb16.out⟩⟩
  case round =>
    obtain ⟨k, hk1, rfl, HI⟩ := hrel
    by_cases hlt : k < a
    · obtain ⟨b, o, rfl, _⟩ := HR.out.keys.addr (by omega)
      obtain ⟨A', m, c', hm, hmc, hmx, hkl⟩ := HR.out.keys.later HBw.out hlt
      obtain ⟨x, hx, hx2, hxc⟩ := HR.out.kids.laterI HKD.out (k := k + 1) (by omega)
      have hm24 : m ≤ 24 := by rw [hm]; exact HK.out k hlt
      have hc := (hkl wr HI.out.2.2).1
      have Hkl := Lib.hid hkl
      have Hm := Lib.hid hm
      have Hxv := Lib.hid hx
      have Hxc := Lib.hid hxc
      have hk0 : (0 : Int) ≤ (k : Int) := by omega
      have hka : (k : Int) < (a : Int) := by omega
      have htk : (k : Int).toNat = k := by omega
      clear hm hkl hx hxc
      go_wp2_with fail
      refine (number_any m 1 wr (by omega) (by omega) (by omega)).mono ?_
      rintro e w5 ⟨Av5, cv5, rfl, hown5, hb5⟩
      have Hf5 := Lib.hid (hown5.farAll HI.out.1)
      have HX5 := Lib.hid (HI.out.2.1.later HI.out.2.1.lt hb5)
      have Ho5 := Lib.hid (HI.out.1.kept hb5)
      have Hb5 := Lib.hid (up HI.out.2.2 hb5)
      have Hkf := Lib.hid (((Hkl.out w5 Hb5.out).2.2 _ HI.out.1.above))
      clear hown5 hb5
      go_wp2_with (at_builtin; refine wpList_append_all rfl (.tmp 43) (.tmp 48) 56 rfl (w.heap.size + 1) ti _ Tryz.underlying56 hi hz0 hz1 hz2 rfl u4 (n.parts k) rfl (Ho5.out.alloc _) (w5.heap.size + 1) _ _ rfl (FarAll.lit2 Hf5.out Hkf.out _) (by simp) (by have := HP.out k; simp; omega) (by have := HX5.out.lt; simp; omega) ?_; intro v6 w6 hown6 hb6; have Hb6 := Lib.hid ((up_alloc Hb5.out (.cells #[.slice Av5 1 cv5, .slice A' m c'] 31)).trans (hb6.mono (Nat.le_succ _))); have HX6 := Lib.hid ((HX5.out.later HX5.out.lt ((Below.refl w5.heap.size w5).alloc (Nat.le_refl _) (.cells #[.slice Av5 1 cv5, .slice A' m c'] 31))).later (Nat.lt_succ_self _) hb6); obtain ⟨x0, x1, x2, x3⟩ := HX6.out; have hxc := Hxc.out _ Hb6.out)
      have Ho6 : Hid (OwnAll w6 (w.heap.size + 1) v6 (n.parts k ++ [be 1 (n.keys.getD k []).length, n.keys.getD k []])) := Lib.hid (by rw [← Hm.out]; exact hown6)
      clear hown6 hb6 hc x0 x1 x2 x3 hxc
      refine (number_any x 2 _ (by omega) (by omega) (by omega)).mono ?_
      rintro e w7 ⟨Av7, cv7, rfl, hown7, hb7⟩
      have Hb7 := Lib.hid (up Hb6.out hb7)
      have HX7 := Lib.hid (HX6.out.later HX6.out.lt hb7)
      have Ho7 := Lib.hid (Ho6.out.kept hb7)
      have Hf7 := Lib.hid (hown7.farAll Ho6.out)
      clear hb7 hown7
      go_wp2_with (at_builtin; refine wpList_append_all rfl (.tmp 67) (.tmp 75) 56 rfl (w.heap.size + 1) ti _ Tryz.underlying56 hi hz0 hz1 hz2 rfl v6 _ rfl (Ho7.out.alloc _) (w7.heap.size + 1) _ _ rfl (FarAll.lit1 Hf7.out _) (by simp) (by have := HP.out k; simp; omega) (by have := HX7.out.lt; simp; omega) ?_; intro v9 w9 hown9 hb9; have Hb9 := Lib.hid ((up_alloc Hb7.out (.cells #[.slice Av7 2 cv7] 31)).trans (hb9.mono (Nat.le_succ _))); have HX9 := Lib.hid ((HX7.out.later HX7.out.lt ((Below.refl w7.heap.size w7).alloc (Nat.le_refl _) (.cells #[.slice Av7 2 cv7] 31))).later (Nat.lt_succ_self _) hb9))
      go_roundw
      case rel =>
        refine ⟨k + 1, by omega, by go_num, Lib.hid ⟨?_, HX9.out, Hb9.out⟩⟩
        rw [HST.out k, ← Hxv.out]
        exact hown9
      case measure => simp [intOf]; omega
    · have : k = a := by omega
      subst this
      obtain ⟨Ap, cp, rfl⟩ := HI.out.1.form
      have hrd := HI.out.1.rd
      have hby := bytes_any Ap _ cp _ wr wr.heap.size hrd (Nat.le_refl _) HFL.out
      rw [← HBY.out] at hby
      obtain ⟨np, hnp⟩ : ∃ np, np = (n.parts k).length := ⟨_, rfl⟩
      rw [← hnp] at hby ⊢
      have HBc := Lib.hid hby
      clear hby hrd hnp
      go_wp2_with (go_at_call 137; refine HBc.out.mono ?_; rintro e w9 ⟨v9, rfl, hown9, hb9⟩)
      go_ret2
      exact ⟨_, rfl, hown9.weaken HI.out.2.2.size, up HI.out.2.2 hb9⟩
end Go.Proofs.YtnmokkkbghlpbaaGreat
/-
  A region that draws its order and ends in stores that wait for all reads: what the reads need must hold behind each operation, but not behind those stores.
-/
namespace Go.Proofs.YtnmokkkbghlpbaaGreat
open Go.RowKit
section
variable {P : Program} {ops : Array Oper} {Q : Exit → Act → World → Prop} {md : Region.Mode} {S : World → Prop} {late : List Nat}
/-- No late operation has come up. -/
def noLate (late : List Nat) (listed : Array Bool) : Bool := late.all fun j => !listed.getD j false
theorem noLate_set {late : List Nat} {listed : Array Bool} {i : Nat} (h : late.contains i = false) : noLate late (listed.setIfInBounds i true) = noLate late listed := by
  unfold noLate
  rw [Bool.eq_iff_iff, List.all_eq_true, List.all_eq_true]
  have e : ∀ j ∈ late, (listed.setIfInBounds i true).getD j false = listed.getD j false := fun j hj => getD_set_ne false fun e => by
    subst e
    have : late.contains i = true := by simpa using hj
    rw [h] at this
    cases this
  exact ⟨fun k j hj => by rw [← e j hj]; exact k j hj, fun k j hj => by rw [e j hj]; exact k j hj⟩
/-- Whatever order is picked: S holds behind each operation, till a late one has come up. -/
def anyU (P : Program) (md : Region.Mode) (ops : Array Oper) (Q : Exit → Act → World → Prop) (S : World → Prop) (late : List Nat) : Nat → Array Bool → Act → World → Prop
  | 0, listed, a, w => Region.ready md ops listed = [] ∧ Q .normal a w
  | f + 1, listed, a, w => (Region.ready md ops listed = [] → Q .normal a w) ∧
    ∀ i ∈ Region.ready md ops listed, wpOp P ops Q i (fun a' w' => (noLate late (listed.setIfInBounds i true) = true → S w') ∧ anyU P md ops Q S late f (listed.setIfInBounds i true) a' w') a w
theorem anyU_any : ∀ (f : Nat) (listed : Array Bool) (a : Act) (w : World), anyU P md ops Q S late f listed a w → wpAny P md ops Q f listed a w
  | 0, _, _, _, h => h
  | f + 1, _, _, _, h => ⟨h.1, fun i hi => wpOp_mono (fun a' w' k => anyU_any f _ a' w' k.2) (h.2 i hi)⟩
/-- Each late operation waits for number i. -/
def lateFor (md : Region.Mode) (ops : Array Oper) (late : List Nat) (i : Nat) : Bool := late.all fun j => Region.waitsFor md ops j i
theorem anyU_first {T : World → Prop} {i : Nat} {oi : Oper} {v : Value} (hST : ∀ w, S w → T w) (hi : ops[i]? = some oi) (hsel : ∀ (j : Nat) (o : Oper) cs b, ops[j]? = some o → o.op ≠ .select cs b)
    (hQ : ∀ c a w, Q (.panic c) (a.put oi.dst v) w → Q (.panic c) a w) (hni : late.contains i = false) (hl : lateFor md ops late i = true ∨ ∀ w, T w) : ∀ (f : Nat) (listed : Array Bool) (a : Act) (w : World),
    (∀ j oj, ops[j]? = some oj → j ≠ i → listed.getD j true = false → (∀ e ∈ oj.after, Region.binds md e = true → e.on ≠ i) → oi.apart ops oj = true) →
    i ∈ Region.ready md ops listed → YieldsIf P ops T oi v a → (noLate late listed = true ∨ ∀ w, T w) → (noLate late listed = true → S w) →
    anyU P md ops Q S late f (listed.setIfInBounds i true) (a.put oi.dst v) w → anyU P md ops Q S late (f + 1) listed a w
  | 0, listed, a, w, _, hr, hy, hc, hw, H => by
    refine ⟨fun h => (by rw [h] at hr; cases hr), fun j hj => ?_⟩
    by_cases e : j = i
    · subst e
      exact hy.wpOp hi (hc.elim (fun h => hST _ (hw h)) (fun h => h _)) ⟨fun h => hw (by rwa [noLate_set hni] at h), H⟩
    · have := ready_mono hj e
      rw [H.1] at this
      cases this
  | f + 1, listed, a, w, hfree, hr, hy, hc, hw, H => by
    refine ⟨fun h => (by rw [h] at hr; cases hr), fun j hj => ?_⟩
    by_cases e : j = i
    · subst e
      exact hy.wpOp hi (hc.elim (fun h => hST _ (hw h)) (fun h => h _)) ⟨fun h => hw (by rwa [noLate_set hni] at h), H⟩
    · obtain ⟨hjun, oj, hoj, hall⟩ := mem_ready.1 hj
      have hno : ∀ x ∈ oj.after, Region.binds md x = true → x.on ≠ i := fun x hx hb he => by
        have h1 := hall x hx hb
        rw [he, getD_both (mem_ready.1 hr).1] at h1
        cases h1
      have hsw : noLate late ((listed.setIfInBounds i true).setIfInBounds j true) = noLate late (listed.setIfInBounds j true) := by
        rw [Array.setIfInBounds_comm _ _ (Ne.symm e), noLate_set hni]
      have hc' : noLate late (listed.setIfInBounds j true) = true ∨ ∀ w, T w := by
        rcases hl with h1 | h1
        · refine hc.imp (fun h2 => ?_) id
          have hnl : late.contains j = false := by
            rw [← Bool.not_eq_true]
            intro h3
            obtain ⟨o, ho, x, hx, hb, hon⟩ := Region.waitsFor_spec (List.all_eq_true.1 h1 j (by simpa using h3))
            have : o = oj := Option.some.inj (ho.symm.trans hoj)
            subst this
            exact hno x hx hb hon
          rw [noLate_set hnl]
          exact h2
        · exact .inr h1
      refine wpOp_mono (fun a' w' k => ⟨fun h => k.2.1 (by rw [hsw]; exact h), ?_⟩) (wpOp_putIf hoj (hfree j oj hoj e hjun hno) (fun cs b => hsel i oi cs b hi) (fun cs b => hsel j oj cs b hoj) hQ hy (H.2 j (ready_mono hj e)))
      refine anyU_first hST hi hsel hQ hni hl f _ a' w' (fun k ok hk hki hun hn => hfree k ok hk hki ?_ hn) (ready_mono hr (Ne.symm e)) k.1 hc' (fun h => k.2.1 (by rw [hsw]; exact h)) ?_
      · by_cases hjk : j = k
        · subst hjk; exact hjun
        · rwa [getD_set_ne true hjk] at hun
      · rw [Array.setIfInBounds_comm _ _ e]
        exact k.2.2
/-- Taken first: what reads a cell of which S speaks; each late operation waits for it. -/
theorem anyU_take {i : Nat} {oi : Oper} {v : Value} {f : Nat} {listed : Array Bool} {a : Act} {w : World} (hi : ops[i]? = some oi) (hs : (Region.noSelect ops && lateFor md ops late i && !late.contains i && Region.free md ops listed i && (Region.ready md ops listed).contains i && noLate late listed) = true)
    (hQ : ∀ c a w, Q (.panic c) (a.put oi.dst v) w → Q (.panic c) a w) (hy : YieldsIf P ops S oi v a) (hS : S w)
    (h : anyU P md ops Q S late f (listed.setIfInBounds i true) (a.put oi.dst v) w) : anyU P md ops Q S late (f + 1) listed a w := by
  simp only [Bool.and_eq_true, Bool.not_eq_true'] at hs
  obtain ⟨⟨⟨⟨⟨h1, h2⟩, h3⟩, h4⟩, h5⟩, h6⟩ := hs
  exact anyU_first (fun _ h => h) hi (Region.noSelect_spec h1) hQ h3 (.inl h2) f listed a w (Region.free_spec hi h4) (by simpa using h5) hy (.inl h6) (fun _ => hS) h
/-- Taken first: what yields in whatever world. -/
theorem anyU_take0 {i : Nat} {oi : Oper} {v : Value} {f : Nat} {listed : Array Bool} {a : Act} {w : World} (hi : ops[i]? = some oi) (hs : (Region.noSelect ops && !late.contains i && Region.free md ops listed i && (Region.ready md ops listed).contains i) = true)
    (hQ : ∀ c a w, Q (.panic c) (a.put oi.dst v) w → Q (.panic c) a w) (hy : YieldsIf P ops (fun _ => True) oi v a) (hS : S w)
    (h : anyU P md ops Q S late f (listed.setIfInBounds i true) (a.put oi.dst v) w) : anyU P md ops Q S late (f + 1) listed a w := by
  simp only [Bool.and_eq_true, Bool.not_eq_true'] at hs
  obtain ⟨⟨⟨h1, h3⟩, h4⟩, h5⟩ := hs
  exact anyU_first (fun _ _ => trivial) hi (Region.noSelect_spec h1) hQ h3 (.inr fun _ => trivial) f listed a w (Region.free_spec hi h4) (by simpa using h5) hy (.inr fun _ => trivial) (fun _ => hS) h
/-- Each of these comes up next. -/
def AllU (P : Program) (md : Region.Mode) (ops : Array Oper) (Q : Exit → Act → World → Prop) (S : World → Prop) (late : List Nat) (f : Nat) (listed : Array Bool) (a : Act) (w : World) (rs : List Nat) : Prop :=
  ∀ i ∈ rs, wpOp P ops Q i (fun a' w' => (noLate late (listed.setIfInBounds i true) = true → S w') ∧ anyU P md ops Q S late f (listed.setIfInBounds i true) a' w') a w
theorem AllU.nil {f : Nat} {listed : Array Bool} {a : Act} {w : World} : AllU P md ops Q S late f listed a w [] := fun _ h => by cases h
theorem AllU.cons {f : Nat} {listed : Array Bool} {a : Act} {w : World} {i : Nat} {o : Oper} {rs : List Nat} (ho : ops[i]? = some o)
    (h : ∀ K' : Act → World → Prop, Shut (∀ a w, (late.contains i = false → S w) → anyU P md ops Q S late f (listed.setIfInBounds i true) a w → K' a w) → if Region.wanted o (yielded ops a.tmps) = true then Oper.wp P o a w K' Q else K' (a.put o.dst undef) w)
    (hn : late.contains i = true → noLate late (listed.setIfInBounds i true) = false)
    (hs : AllU P md ops Q S late f listed a w rs) : AllU P md ops Q S late f listed a w (i :: rs) := fun j hj => by
  rcases List.mem_cons.1 hj with rfl | hj
  · refine wpOp_step ho fun K' hK => h K' fun a w hS hW => hK a w ⟨fun h1 => hS ?_, hW⟩
    rw [← Bool.not_eq_true]
    intro h2
    rw [hn h2] at h1
    cases h1
  · exact hs j hj
theorem anyU_ready {rs : List Nat} {f : Nat} {listed : Array Bool} {a : Act} {w : World} (hr : Region.ready md ops listed = rs) (hne : rs ≠ []) (h : AllU P md ops Q S late f listed a w rs) : anyU P md ops Q S late (f + 1) listed a w :=
  ⟨fun h0 => absurd (hr ▸ h0) hne, hr ▸ h⟩
theorem anyU_done {listed : Array Bool} {a : Act} {w : World} (hr : Region.ready md ops listed = []) (h : Q .normal a w) : ∀ f, anyU P md ops Q S late f listed a w
  | 0 => ⟨hr, h⟩
  | _ + 1 => ⟨fun _ => h, by rw [hr]; simp⟩
theorem wp_region_late {id : Nat} {a : Act} {w : World} (late : List Nat) (hm : P.follows .mixedOrders = true) (hS : S w.drew) (h : S w.drew → anyU P .any ops Q S late ops.size (Array.replicate ops.size false) a w.drew) : (Code.region id ops true).wp P Q a w :=
  wp_region_any hm (anyU_any _ _ _ _ (h hS))
end
end Go.Proofs.YtnmokkkbghlpbaaGreat
/-
  A node that is being made in memory: its block, its rows, and append onto them.
-/
namespace Go.Proofs.YtnmokkkbghlpbaaGreat
open Go.RowKit
/-- u has the text l; it lies below B0, or from base on in a block of bytes. -/
def Txt (w : World) (B0 base : Nat) (u : Value) (l : List UInt8) : Prop :=
  ∃ A c, u = .slice A l.length c ∧ l.length ≤ c ∧ c ≤ maxLen ∧ (A = none → c = 0) ∧
    (0 < l.length → ∃ b o, A = some ⟨b, o, none⟩ ∧ b < w.heap.size ∧ (b < B0 ∨ base ≤ b ∧ ∃ cur m, w.heap[b]? = some (.cells cur 5 m)) ∧ ∀ j u, (cellsB l)[j]? = some u → w.cell? ⟨b, o + j, none⟩ = some u)
/-- Between two worlds nothing below B0, or from base on, turned, but block g. -/
structure Fr (B0 base : Nat) (g : Option Nat) (w w' : World) : Prop where
  size : w.heap.size ≤ w'.heap.size
  keep : ∀ k, k < w.heap.size → (k < B0 ∨ base ≤ k) → g ≠ some k → w'.heap[k]? = w.heap[k]?
/-- A row's block, not of bytes. -/
def RowB (w : World) (base : Nat) (g : Option Nat) : Prop := ∀ k, g = some k → base ≤ k ∧ ∃ cur t m, w.heap[k]? = some (.cells cur t m) ∧ t ≠ 5
theorem RowB.none (w : World) (base : Nat) : RowB w base none := fun _ h => by cases h
section
variable {w w' : World} {B B0 base p : Nat} {g : Option Nat} {u v x : Value} {l : List UInt8} {ls ms : List (List UInt8)} {e : TypeId} {xs : List Value}
theorem Mine.rowB (h : Mine w base e v xs) (he : e ≠ 5) : RowB w base v.ownBlock := fun k hk => by
  rcases h.2 with ⟨rfl, _⟩ | ⟨g, cap, cur, rfl, hbg, hg, _⟩
  · cases hk
  · have : g = k := by simpa [Value.ownBlock] using hk
    subst this
    exact ⟨hbg, _, _, _, hg, he⟩
theorem Mine.frK (h : Mine w base e v xs) (hf : Fr B0 base g w w') (hne : ∀ k, v.ownBlock = some k → g ≠ some k) : Mine w' base e v xs := by
  have hlt := h.block
  refine ⟨h.1, ?_⟩
  rcases h.2 with h1 | ⟨r, cap, cur, rfl, hbg, hg, h3⟩
  · exact .inl h1
  · exact .inr ⟨r, cap, cur, rfl, hbg, (hf.keep r (hlt r rfl).2 (.inr hbg) (hne r rfl)).trans hg, h3⟩
theorem Txt.rd (h : Txt w B0 base u l) : Rd w w.heap.size u (cellsB l) := by
  obtain ⟨A, c, rfl, h1, h2, h3, h4⟩ := h
  refine ⟨A, c, by rw [cellsB_length], by rw [cellsB_length]; exact h1, h2, h3, fun hp => ?_⟩
  obtain ⟨b, o, rfl, hb, _, hc⟩ := h4 (by rwa [cellsB_length] at hp)
  exact ⟨b, o, rfl, hb, hc⟩
theorem Txt.one (h : Txt w B0 base u l) : u.oneCell' = true := by obtain ⟨A, c, rfl, _⟩ := h; rfl
theorem Txt.keep (h : Txt w B0 base u l) (hf : Fr B0 base g w w') (hg : RowB w base g) (hB : B0 ≤ base) : Txt w' B0 base u l := by
  obtain ⟨A, c, rfl, h1, h2, h3, h4⟩ := h
  refine ⟨A, c, rfl, h1, h2, h3, fun hp => ?_⟩
  obtain ⟨b, o, rfl, hb, hw, hc⟩ := h4 hp
  have hne : g ≠ some b := fun e => by
    obtain ⟨q1, cur, t, m, q2, q3⟩ := hg b e
    rcases hw with h | ⟨_, cur', m', h⟩
    · omega
    · rw [q2] at h
      injection h with h
      injection h with _ h
      exact q3 h
  have hk := hf.keep b hb (hw.imp id fun h => h.1) hne
  refine ⟨b, o, rfl, Nat.lt_of_lt_of_le hb hf.size, hw.imp id fun ⟨a, cur, m, h⟩ => ⟨a, cur, m, hk.trans h⟩, fun j u hu => (World.cell?_of_block (w := w) (a := ⟨b, o + j, Option.none⟩) hk).trans (hc j u hu)⟩
/-- What a call has made. -/
theorem Mine.txt {b1 : Nat} (h : Mine w b1 5 v (cellsB l)) (hb : base ≤ b1) : Txt w B0 base v l := by
  rcases h.2 with ⟨rfl, hn⟩ | ⟨g, cap, cur, rfl, hbg, hg, hnc, hcm, hcs, htake⟩
  · rw [cellsB_length] at hn
    have : l = [] := List.eq_nil_of_length_eq_zero hn
    subst this
    exact ⟨Option.none, 0, rfl, Nat.le_refl _, Nat.zero_le _, fun _ => rfl, fun h => absurd h (by simp)⟩
  · refine ⟨_, _, by rw [cellsB_length], by rw [cellsB_length] at hnc; exact hnc, hcm, (fun h => by cases h), fun _ => ⟨g, 0, rfl, (World.ownsRow.lt h g rfl).2, .inr ⟨by omega, _, _, hg⟩, fun j u hu => ?_⟩⟩
    have := World.ownsRow.cells h (g := g) rfl j u hu
    simpa [Addr.add_lit] using this
/-- What was there. -/
theorem Rd.txt (h : Rd w B u (cellsB l)) (hB : B ≤ B0) (hw : B0 ≤ w.heap.size) : Txt w B0 base u l := by
  obtain ⟨A, c, e, h1, h2, h3, h4⟩ := h
  rw [cellsB_length] at *
  subst e
  refine ⟨A, c, rfl, h1, h2, h3, fun hp => ?_⟩
  obtain ⟨b, o, rfl, hb, hc⟩ := h4 hp
  exact ⟨b, o, rfl, by omega, .inl (by omega), hc⟩
/-- A row of the call's own, of such texts. -/
def OwnT (w : World) (B0 base : Nat) (v : Value) (ls : List (List UInt8)) : Prop :=
  ∃ vs, Mine w base 31 v vs ∧ vs.length = ls.length ∧ ∀ (k : Nat) (u : Value) (l : List UInt8), vs[k]? = some u → ls[k]? = some l → Txt w B0 base u l
/-- A slice that has such texts. -/
def RdT (w : World) (B0 base : Nat) (x : Value) (ms : List (List UInt8)) : Prop :=
  ∃ vs, Rd w w.heap.size x vs ∧ vs.length = ms.length ∧ ∀ (k : Nat) (u : Value) (l : List UInt8), vs[k]? = some u → ms[k]? = some l → Txt w B0 base u l
theorem OwnT.nil (w : World) (B0 base : Nat) : OwnT w B0 base (.slice Option.none 0 0) [] := ⟨[], Mine.nil w base _, rfl, fun k u l h => by simp at h⟩
theorem OwnT.rd (h : OwnT w B0 base v ls) : RdAll w w.heap.size v ls := by
  obtain ⟨vs, h1, h2, h3⟩ := h
  exact ⟨vs, h1.rd, h2, fun k u l a b => (h3 k u l a b).rd⟩
theorem OwnT.block (h : OwnT w B0 base v ls) : ∀ k, v.ownBlock = some k → base ≤ k ∧ k < w.heap.size := by
  obtain ⟨vs, h1, _⟩ := h
  exact h1.block
theorem OwnT.rowB (h : OwnT w B0 base v ls) : RowB w base v.ownBlock := by
  obtain ⟨vs, h1, _⟩ := h
  exact h1.rowB (by decide)
theorem OwnT.keep (h : OwnT w B0 base v ls) (hf : Fr B0 base g w w') (hg : RowB w base g) (hB : B0 ≤ base) (hne : ∀ k, v.ownBlock = some k → g ≠ some k) : OwnT w' B0 base v ls := by
  obtain ⟨vs, h1, h2, h3⟩ := h
  exact ⟨vs, h1.frK hf hne, h2, fun k u l a b => (h3 k u l a b).keep hf hg hB⟩
theorem RdAll.rdT (h : RdAll w B x ms) (hB : B ≤ B0) (hw : B0 ≤ w.heap.size) : RdT w B0 base x ms := by
  obtain ⟨vs, h1, h2, h3⟩ := h
  exact ⟨vs, h1.more (by omega), h2, fun k u l a b => (h3 k u l a b).txt hB hw⟩
theorem Fr.alloc (w : World) (o : Obj) : Fr B0 base Option.none w (w.alloc o) := ⟨by simp, fun k hk _ _ => heap_alloc_old w o hk⟩
theorem Fr.below (h : Below w.heap.size w w') : Fr B0 base Option.none w w' := ⟨h.size, fun k hk _ _ => h.block k hk⟩
theorem Fr.grown (h : w.grownBy w' g) : Fr B0 base g w w' := ⟨h.size, fun k hk _ hn => h.block k hk fun e => hn e.symm⟩
theorem Fr.inner {q : Nat} (h : w.grownBy w' (some q)) (h1 : B0 ≤ q) (h2 : q < base) : Fr B0 base Option.none w w' := ⟨h.size, fun k hk h3 _ => h.block k hk fun e => by injection e with e; omega⟩
theorem Fr.set (h1 : B0 ≤ p) (h2 : p < base) (j : Nat) (u : Value) : Fr B0 base Option.none w (w.setCell ⟨p, j, Option.none⟩ u) :=
  ⟨by simp, fun k _ h3 _ => heap_setCell_other w _ k u (show k ≠ p by omega)⟩
theorem RdT.lit1 (h : Txt w B0 base u l) (hB : B0 ≤ base) (e : TypeId) : RdT (w.alloc (.cells #[u] e)) B0 base (.slice (some ⟨w.heap.size, 0, Option.none⟩) 1 1) [l] := by
  refine ⟨[u], ⟨_, _, rfl, Nat.le_refl _, by unfold maxLen; simp, (fun h => by cases h), fun _ => ⟨w.heap.size, 0, rfl, by simp, fun j v hv => ?_⟩⟩, rfl, fun k v m a b => ?_⟩
  · rw [Nat.zero_add, World.cell?_alloc_mark]
    simpa using hv
  · match k, a, b with
    | 0, a, b => simp at a b; subst a b; exact h.keep (Fr.alloc w _) (RowB.none _ _) hB
/-- append onto such a row. -/
theorem OwnT.append (h : OwnT w B0 base v ls) (hx : RdT w B0 base x ms) (hs : ls.length + ms.length ≤ 1000000000) (hb : base ≤ w.heap.size) (hB : B0 ≤ base) :
    ∃ A n c w', (Builtin.append_ #[56, 56] 56 #[v, x]).run Tryz.prog w = .ok (.slice A n c) w' ∧ OwnT w' B0 base (.slice A n c) (ls ++ ms) ∧ w.grownBy w' v.ownBlock ∧ Below base w w' ∧ ((Value.slice A n c).ownBlock = v.ownBlock ∨ (Value.slice A n c).ownBlock = some w.heap.size) := by
  obtain ⟨i, hi, hz0, hz1, hz2⟩ := info_parts info_row
  obtain ⟨vs, h1, h2, h3⟩ := h
  obtain ⟨news, g1, g2, g3⟩ := hx
  obtain ⟨v', w', hrun, hm, hgr, hob⟩ := run_append_rd (P := Tryz.prog) (w := w) base 56 56 31 i _ 24 Tryz.underlying56 hi hz0 hz1 hz2 rfl v vs h1 w.heap.size x news g1 (fun u hu => by
    obtain ⟨k, hk, rfl⟩ := List.getElem_of_mem hu
    exact (g3 k _ (ms[k]'(by omega)) (List.getElem?_eq_getElem hk) (List.getElem?_eq_getElem (by omega))).one) (by omega) (by unfold maxLen; omega) hb
  obtain ⟨A, c, rfl⟩ := hm.form
  have hrow := h1.rowB (by decide : (31 : TypeId) ≠ 5)
  have hf : Fr B0 base v.ownBlock w w' := Fr.grown hgr
  refine ⟨A, _, c, w', hrun, ⟨vs ++ news, hm, by rw [List.length_append, List.length_append, h2, g2], fun k u l a b => ?_⟩, hgr, (Below.refl _ _).grown hgr hb fun k hk => (h1.block k hk).1, hob⟩
  by_cases hk : k < vs.length
  · rw [List.getElem?_append_left hk] at a
    rw [List.getElem?_append_left (by omega)] at b
    exact (h3 k u l a b).keep hf hrow hB
  · rw [List.getElem?_append_right (by omega)] at a
    rw [List.getElem?_append_right (by omega), ← h2] at b
    exact (g3 _ u l a b).keep hf hrow hB
end
theorem info_int : (Tryz.prog.info? 3).map (fun i => (i.zero, i.size, i.bytes)) = some (some (.int .i64 0), 1, 8) := by kernel_rfl
/-- A node that is being made: what its block p holds (t..), and the rows at hand (u..). -/
structure NdMk (w : World) (B0 base p : Nat) (lf : Bool) (tK tV tD uK uV uD : Value) (ks vs : List (List UInt8)) (ds : List Int) : Prop where
  top : w.heap[p]? = some (.cells #[.bool lf, tK, tV, tD] 126 (0, 0))
  rK : OwnT w B0 base uK ks
  rV : OwnT w B0 base uV vs
  rD : Mine w base 3 uD (cellsI ds)
  kv : ∀ k, uK.ownBlock = some k → uV.ownBlock ≠ some k
  lo : B0 ≤ p
  hi : p < base
  le : base ≤ w.heap.size
section
variable {w w' : World} {B0 base p : Nat} {lf : Bool} {tK tV tD uK uV uD x u : Value} {ks vs ms : List (List UInt8)} {ds es : List Int} {l : List UInt8}
theorem NdMk.c0 (h : NdMk w B0 base p lf tK tV tD uK uV uD ks vs ds) : w.cell? ⟨p, 0, none⟩ = some (.bool lf) := by rw [cell_of_row w p 0 _ _ (0, 0) h.top]; rfl
theorem NdMk.c1 (h : NdMk w B0 base p lf tK tV tD uK uV uD ks vs ds) : w.cell? ⟨p, 1, none⟩ = some tK := by rw [cell_of_row w p 1 _ _ (0, 0) h.top]; rfl
theorem NdMk.c2 (h : NdMk w B0 base p lf tK tV tD uK uV uD ks vs ds) : w.cell? ⟨p, 2, none⟩ = some tV := by rw [cell_of_row w p 2 _ _ (0, 0) h.top]; rfl
theorem NdMk.c3 (h : NdMk w B0 base p lf tK tV tD uK uV uD ks vs ds) : w.cell? ⟨p, 3, none⟩ = some tD := by rw [cell_of_row w p 3 _ _ (0, 0) h.top]; rfl
theorem NdMk.fz (h : NdMk w B0 base p lf tK tV tD uK uV uD ks vs ds) (j : Nat) : w.frozen? ⟨p, j, none⟩ = false := frozen_of_row w p j _ _ h.top
theorem NdMk.box (h : NdMk w B0 base p lf tK tV tD uK uV uD ks vs ds) : NdBox w p lf tK tV tD := ⟨h.c0, h.c1, h.c2, h.c3⟩
theorem NdMk.keep (h : NdMk w B0 base p lf tK tV tD uK uV uD ks vs ds) (hf : Fr B0 base none w w') (ht : w'.heap[p]? = w.heap[p]?) : NdMk w' B0 base p lf tK tV tD uK uV uD ks vs ds :=
  have hB : B0 ≤ base := by have := h.lo; have := h.hi; omega
  ⟨ht.trans h.top, h.rK.keep hf (RowB.none _ _) hB (fun _ _ e => by cases e), h.rV.keep hf (RowB.none _ _) hB (fun _ _ e => by cases e), h.rD.frK hf (fun _ _ e => by cases e), h.kv, h.lo, h.hi, Nat.le_trans h.le hf.size⟩
theorem NdMk.lt (h : NdMk w B0 base p lf tK tV tD uK uV uD ks vs ds) : p < w.heap.size := (Array.getElem?_eq_some_iff.1 h.top).1
theorem NdMk.kept (h : NdMk w B0 base p lf tK tV tD uK uV uD ks vs ds) (hb : Below w.heap.size w w') : NdMk w' B0 base p lf tK tV tD uK uV uD ks vs ds := h.keep (Fr.below hb) (hb.block p h.lt)
theorem NdMk.inner (h : NdMk w B0 base p lf tK tV tD uK uV uD ks vs ds) {q : Nat} (hb : w.grownBy w' (some q)) (h1 : B0 ≤ q) (h2 : q < base) (h3 : q ≠ p) : NdMk w' B0 base p lf tK tV tD uK uV uD ks vs ds :=
  h.keep (Fr.inner hb h1 h2) (hb.block p h.lt fun e => by injection e with e; exact h3 e.symm)
theorem NdMk.alloc (h : NdMk w B0 base p lf tK tV tD uK uV uD ks vs ds) (o : Obj) : NdMk (w.alloc o) B0 base p lf tK tV tD uK uV uD ks vs ds := h.kept ((Below.refl _ _).alloc (Nat.le_refl _) o)
theorem NdMk.drew (h : NdMk w B0 base p lf tK tV tD uK uV uD ks vs ds) : NdMk w.drew B0 base p lf tK tV tD uK uV uD ks vs ds := h.kept ((Below.refl _ _).drew)
theorem NdMk.leB (h : NdMk w B0 base p lf tK tV tD uK uV uD ks vs ds) : B0 ≤ base := by have := h.lo; have := h.hi; omega
/-- append onto the keys. -/
theorem NdMk.appK (h : NdMk w B0 base p lf tK tV tD uK uV uD ks vs ds) (hx : RdT w B0 base x ms) (hs : ks.length + ms.length ≤ 1000000000) :
    ∃ A n c w', (Builtin.append_ #[56, 56] 56 #[uK, x]).run Tryz.prog w = .ok (.slice A n c) w' ∧ NdMk w' B0 base p lf tK tV tD (.slice A n c) uV uD (ks ++ ms) vs ds ∧ Below base w w' ∧ w.grownBy w' uK.ownBlock := by
  obtain ⟨A, n, c, w', hrun, ho, hg, hb, hv⟩ := h.rK.append hx hs h.le h.leB
  refine ⟨A, n, c, w', hrun, ⟨(hb.block p h.hi).trans h.top, ho, h.rV.keep (Fr.grown hg) h.rK.rowB h.leB fun k h1 h2 => h.kv k h2 h1, h.rD.frK (B0 := B0) (Fr.grown hg) fun k h1 h2 => ?_, fun k h1 h2 => ?_, h.lo, h.hi, Nat.le_trans h.le hb.size⟩, hb, hg⟩
  · obtain ⟨ws, hm, _⟩ := h.rK
    rcases hm.apart h.rD (by decide) with e | e
    · rw [e] at h2; cases h2
    · exact e (h2.trans h1.symm)
  · rcases hv with e | e
    · exact h.kv k (e ▸ h1) h2
    · rw [e] at h1
      injection h1 with h1
      have := (h.rV.block k h2).2
      omega
theorem NdMk.appV (h : NdMk w B0 base p lf tK tV tD uK uV uD ks vs ds) (hx : RdT w B0 base x ms) (hs : vs.length + ms.length ≤ 1000000000) :
    ∃ A n c w', (Builtin.append_ #[56, 56] 56 #[uV, x]).run Tryz.prog w = .ok (.slice A n c) w' ∧ NdMk w' B0 base p lf tK tV tD uK (.slice A n c) uD ks (vs ++ ms) ds ∧ Below base w w' ∧ w.grownBy w' uV.ownBlock := by
  obtain ⟨A, n, c, w', hrun, ho, hg, hb, hv⟩ := h.rV.append hx hs h.le h.leB
  refine ⟨A, n, c, w', hrun, ⟨(hb.block p h.hi).trans h.top, h.rK.keep (Fr.grown hg) h.rV.rowB h.leB fun k h1 h2 => h.kv k h1 h2, ho, h.rD.frK (B0 := B0) (Fr.grown hg) fun k h1 h2 => ?_, fun k h1 h2 => ?_, h.lo, h.hi, Nat.le_trans h.le hb.size⟩, hb, hg⟩
  · obtain ⟨ws, hm, _⟩ := h.rV
    rcases hm.apart h.rD (by decide) with e | e
    · rw [e] at h2; cases h2
    · exact e (h2.trans h1.symm)
  · rcases hv with e | e
    · exact h.kv k h1 (e ▸ h2)
    · rw [e] at h2
      injection h2 with h2
      have := (h.rK.block k h1).2
      omega
theorem NdMk.appD (h : NdMk w B0 base p lf tK tV tD uK uV uD ks vs ds) (hx : Rd w w.heap.size x (cellsI es)) (hs : ds.length + es.length ≤ 1000000000) :
    ∃ A n c w', (Builtin.append_ #[54, 54] 54 #[uD, x]).run Tryz.prog w = .ok (.slice A n c) w' ∧ NdMk w' B0 base p lf tK tV tD uK uV (.slice A n c) ks vs (ds ++ es) ∧ Below base w w' ∧ w.grownBy w' uD.ownBlock := by
  obtain ⟨i, hi, hz0, hz1, hz2⟩ := info_parts info_int
  obtain ⟨v', w', hrun, hm, hgr, hob⟩ := run_append_rd (P := Tryz.prog) (w := w) base 54 54 3 i _ 8 Tryz.underlying54 hi hz0 hz1 hz2 rfl uD (cellsI ds) h.rD w.heap.size x (cellsI es) hx (cellsI_one _) (by rw [cellsI_length, cellsI_length]; omega) (by unfold maxLen; rw [cellsI_length, cellsI_length]; omega) h.le
  rw [← cellsI_append] at hm
  obtain ⟨A, c, rfl⟩ := hm.form
  have hrow := h.rD.rowB (by decide : (3 : TypeId) ≠ 5)
  have hb : Below base w w' := (Below.refl _ _).grown hgr h.le fun k hk => (h.rD.block k hk).1
  refine ⟨A, _, c, w', hrun, ⟨(hb.block p h.hi).trans h.top, h.rK.keep (Fr.grown hgr) hrow h.leB fun k h1 h2 => ?_, h.rV.keep (Fr.grown hgr) hrow h.leB fun k h1 h2 => ?_, hm, h.kv, h.lo, h.hi, Nat.le_trans h.le hb.size⟩, hb, hgr⟩
  · obtain ⟨ws, hm, _⟩ := h.rK
    rcases hm.apart h.rD (by decide) with e | e
    · rw [e] at h1; cases h1
    · exact e (h1.trans h2.symm)
  · obtain ⟨ws, hm, _⟩ := h.rV
    rcases hm.apart h.rD (by decide) with e | e
    · rw [e] at h1; cases h1
    · exact e (h1.trans h2.symm)
theorem NdMk.setK (h : NdMk w B0 base p lf tK tV tD uK uV uD ks vs ds) : NdMk (w.setCell ⟨p, 1, none⟩ uK) B0 base p lf uK tV tD uK uV uD ks vs ds := by
  have hf : Fr B0 base none w (w.setCell ⟨p, 1, none⟩ uK) := Fr.set h.lo h.hi 1 uK
  have hB := h.leB
  exact ⟨heap_setCell_same w p 1 _ _ uK h.top, h.rK.keep hf (RowB.none _ _) hB (fun _ _ e => by cases e), h.rV.keep hf (RowB.none _ _) hB (fun _ _ e => by cases e), h.rD.frK hf (fun _ _ e => by cases e), h.kv, h.lo, h.hi, Nat.le_trans h.le hf.size⟩
theorem NdMk.setV (h : NdMk w B0 base p lf tK tV tD uK uV uD ks vs ds) : NdMk (w.setCell ⟨p, 2, none⟩ uV) B0 base p lf tK uV tD uK uV uD ks vs ds := by
  have hf : Fr B0 base none w (w.setCell ⟨p, 2, none⟩ uV) := Fr.set h.lo h.hi 2 uV
  have hB := h.leB
  exact ⟨heap_setCell_same w p 2 _ _ uV h.top, h.rK.keep hf (RowB.none _ _) hB (fun _ _ e => by cases e), h.rV.keep hf (RowB.none _ _) hB (fun _ _ e => by cases e), h.rD.frK hf (fun _ _ e => by cases e), h.kv, h.lo, h.hi, Nat.le_trans h.le hf.size⟩
theorem NdMk.setD (h : NdMk w B0 base p lf tK tV tD uK uV uD ks vs ds) : NdMk (w.setCell ⟨p, 3, none⟩ uD) B0 base p lf tK tV uD uK uV uD ks vs ds := by
  have hf : Fr B0 base none w (w.setCell ⟨p, 3, none⟩ uD) := Fr.set h.lo h.hi 3 uD
  have hB := h.leB
  exact ⟨heap_setCell_same w p 3 _ _ uD h.top, h.rK.keep hf (RowB.none _ _) hB (fun _ _ e => by cases e), h.rV.keep hf (RowB.none _ _) hB (fun _ _ e => by cases e), h.rD.frK hf (fun _ _ e => by cases e), h.kv, h.lo, h.hi, Nat.le_trans h.le hf.size⟩
theorem NdMk.is (h : NdMk w B0 base p lf tK tV tD uK uV uD ks vs ds) : NdIs w w.heap.size uK uV uD ⟨lf, ks, vs, ds⟩ := ⟨h.rK.rd, h.rV.rd, h.rD.rd⟩
/-- One key more: the literal, and append. -/
theorem NdMk.appK1 (h : NdMk w B0 base p lf tK tV tD uK uV uD ks vs ds) (hu : Txt w B0 base u l) (hs : ks.length ≤ 100000) :
    ∃ A n c w', (Builtin.append_ #[56, 56] 56 #[uK, .slice (some ⟨w.heap.size, 0, none⟩) 1 1]).run Tryz.prog (w.alloc (.cells #[u] 31)) = .ok (.slice A n c) w' ∧ NdMk w' B0 base p lf tK tV tD (.slice A n c) uV uD (ks ++ [l]) vs ds ∧ Below base w w' := by
  obtain ⟨A, n, c, w', hrun, hn, hb, _⟩ := (h.alloc (.cells #[u] 31)).appK (RdT.lit1 hu h.leB _) (by simp; omega)
  exact ⟨A, n, c, w', hrun, hn, ((Below.refl _ _).alloc h.le _).trans hb⟩
theorem NdMk.appV1 (h : NdMk w B0 base p lf tK tV tD uK uV uD ks vs ds) (hu : Txt w B0 base u l) (hs : vs.length ≤ 100000) :
    ∃ A n c w', (Builtin.append_ #[56, 56] 56 #[uV, .slice (some ⟨w.heap.size, 0, none⟩) 1 1]).run Tryz.prog (w.alloc (.cells #[u] 31)) = .ok (.slice A n c) w' ∧ NdMk w' B0 base p lf tK tV tD uK (.slice A n c) uD ks (vs ++ [l]) ds ∧ Below base w w' := by
  obtain ⟨A, n, c, w', hrun, hn, hb, _⟩ := (h.alloc (.cells #[u] 31)).appV (RdT.lit1 hu h.leB _) (by simp; omega)
  exact ⟨A, n, c, w', hrun, hn, ((Below.refl _ _).alloc h.le _).trans hb⟩
theorem NdMk.appD1 (h : NdMk w B0 base p lf tK tV tD uK uV uD ks vs ds) (i : Int) (hs : ds.length ≤ 100000) :
    ∃ A n c w', (Builtin.append_ #[54, 54] 54 #[uD, .slice (some ⟨w.heap.size, 0, none⟩) 1 1]).run Tryz.prog (w.alloc (.cells #[.int .i64 i] 3)) = .ok (.slice A n c) w' ∧ NdMk w' B0 base p lf tK tV tD uK uV (.slice A n c) ks vs (ds ++ [i]) ∧ Below base w w' := by
  obtain ⟨A, n, c, w', hrun, hn, hb, _⟩ := (h.alloc (.cells #[.int .i64 i] 3)).appD (es := [i]) (x := .slice (some ⟨w.heap.size, 0, none⟩) 1 1) ⟨_, _, rfl, Nat.le_refl _, by unfold maxLen; simp, (fun h => by cases h), fun _ => ⟨w.heap.size, 0, rfl, by simp, fun j v hv => by
    rw [Nat.zero_add, World.cell?_alloc_mark]
    simpa [cellsI] using hv⟩⟩ (by simp; omega)
  exact ⟨A, n, c, w', hrun, hn, ((Below.refl _ _).alloc h.le _).trans hb⟩
end
/-- A node that is new: all its rows and texts lie from base on. -/
structure NdNew (w : World) (base : Nat) (K V D : Value) (n : Nd) : Prop where
  keys : OwnT w 0 base K n.keys
  vals : OwnT w 0 base V n.vals
  kids : Mine w base 3 D (cellsI n.kids)
/-- What is stored where a node is handed back. -/
def store4 (w : World) (N : Nat) (lf : Bool) (K V D : Value) : World := (((w.setCell ⟨N, 0, none⟩ (.bool lf)).setCell ⟨N, 1, none⟩ K).setCell ⟨N, 2, none⟩ V).setCell ⟨N, 3, none⟩ D
section
variable {w w' : World} {base b1 N : Nat} {K V D K' V' D' a0 a1 a2 a3 : Value} {n : Nd} {lf : Bool}
theorem NdNew.is (h : NdNew w base K V D n) : NdIs w w.heap.size K V D n := ⟨h.keys.rd, h.vals.rd, h.kids.rd⟩
theorem NdNew.keep (h : NdNew w base K V D n) (hf : Fr 0 base none w w') : NdNew w' base K V D n :=
  ⟨h.keys.keep hf (RowB.none _ _) (Nat.zero_le _) (fun _ _ e => by cases e), h.vals.keep hf (RowB.none _ _) (Nat.zero_le _) (fun _ _ e => by cases e), h.kids.frK hf (fun _ _ e => by cases e)⟩
theorem NdNew.kept (h : NdNew w base K V D n) (hb : Below w.heap.size w w') : NdNew w' base K V D n := h.keep (Fr.below hb)
theorem NdMk.new {B0 p : Nat} {tK tV tD uK uV uD : Value} {ks vs : List (List UInt8)} {ds : List Int} (h : NdMk w B0 base p lf tK tV tD uK uV uD ks vs ds) (h0 : B0 = 0) : NdNew w base uK uV uD ⟨lf, ks, vs, ds⟩ := by
  subst h0
  exact ⟨h.rK, h.rV, h.rD⟩
theorem Txt.weaken {B0 : Nat} {u : Value} {l : List UInt8} (h : Txt w B0 base u l) (hb : b1 ≤ base) : Txt w B0 b1 u l := by
  obtain ⟨A, c, rfl, h1, h2, h3, h4⟩ := h
  refine ⟨A, c, rfl, h1, h2, h3, fun hp => ?_⟩
  obtain ⟨b, o, e, hb2, hw, hc⟩ := h4 hp
  exact ⟨b, o, e, hb2, hw.imp id fun ⟨a, x⟩ => ⟨Nat.le_trans hb a, x⟩, hc⟩
theorem OwnT.weaken {B0 : Nat} {v : Value} {ls : List (List UInt8)} (h : OwnT w B0 base v ls) (hb : b1 ≤ base) : OwnT w B0 b1 v ls := by
  obtain ⟨vs, h1, h2, h3⟩ := h
  exact ⟨vs, h1.weaken hb, h2, fun k u l a b => (h3 k u l a b).weaken hb⟩
theorem NdNew.weaken (h : NdNew w base K V D n) (hb : b1 ≤ base) : NdNew w b1 K V D n := ⟨h.keys.weaken hb, h.vals.weaken hb, h.kids.weaken hb⟩
theorem store4_top (hg : w.heap[N]? = some (.cells #[a0, a1, a2, a3] 126 (0, 0))) : (store4 w N lf K V D).heap[N]? = some (.cells #[.bool lf, K, V, D] 126 (0, 0)) := by
  have h1 := heap_setCell_same w N 0 _ _ (.bool lf) hg
  have h2 := heap_setCell_same _ N 1 _ _ K h1
  have h3 := heap_setCell_same _ N 2 _ _ V h2
  exact heap_setCell_same _ N 3 _ _ D h3
theorem store4_size : (store4 w N lf K V D).heap.size = w.heap.size := by simp [store4]
theorem store4_other {k : Nat} (h : k ≠ N) : (store4 w N lf K V D).heap[k]? = w.heap[k]? := by
  unfold store4
  rw [heap_setCell_other _ _ k _ (show k ≠ N from h), heap_setCell_other _ _ k _ (show k ≠ N from h), heap_setCell_other _ _ k _ (show k ≠ N from h), heap_setCell_other _ _ k _ (show k ≠ N from h)]
theorem store4_below {B : Nat} (hN : B ≤ N) : Below B w (store4 w N lf K V D) :=
  ((((Below.refl B w).setCell (p := ⟨N, 0, none⟩) hN _).setCell (p := ⟨N, 1, none⟩) hN _).setCell (p := ⟨N, 2, none⟩) hN _).setCell (p := ⟨N, 3, none⟩) hN _
theorem NdNew.store4 (h : NdNew w base K' V' D' n) (hN : N < base) : NdNew (store4 w N lf K V D) base K' V' D' n :=
  h.keep ⟨Nat.le_of_eq store4_size.symm, fun _ _ h2 _ => store4_other (by omega)⟩
theorem box_of_top (hg : w.heap[N]? = some (.cells #[.bool lf, K, V, D] 126 (0, 0))) : NdBox w N lf K V D :=
  ⟨by rw [cell_of_row w N 0 _ _ (0, 0) hg]; rfl, by rw [cell_of_row w N 1 _ _ (0, 0) hg]; rfl, by rw [cell_of_row w N 2 _ _ (0, 0) hg]; rfl, by rw [cell_of_row w N 3 _ _ (0, 0) hg]; rfl⟩
/-- The cells of a block where a node is handed back: what they hold, and that they may be written. -/
theorem out_cells (hg : w.heap[N]? = some (.cells #[a0, a1, a2, a3] 126 (0, 0))) : w.cell? ⟨N, 0, none⟩ = some a0 ∧ w.cell? ⟨N, 1, none⟩ = some a1 ∧ w.cell? ⟨N, 2, none⟩ = some a2 ∧ w.cell? ⟨N, 3, none⟩ = some a3 ∧
    w.frozen? ⟨N, 0, none⟩ = false ∧ w.frozen? ⟨N, 1, none⟩ = false ∧ w.frozen? ⟨N, 2, none⟩ = false ∧ w.frozen? ⟨N, 3, none⟩ = false :=
  ⟨by rw [cell_of_row w N 0 _ _ (0, 0) hg]; rfl, by rw [cell_of_row w N 1 _ _ (0, 0) hg]; rfl, by rw [cell_of_row w N 2 _ _ (0, 0) hg]; rfl, by rw [cell_of_row w N 3 _ _ (0, 0) hg]; rfl, frozen_of_row w N 0 _ _ hg, frozen_of_row w N 1 _ _ hg, frozen_of_row w N 2 _ _ hg, frozen_of_row w N 3 _ _ hg⟩
/-- A node's lists are slices. -/
theorem NdIs.slices {B : Nat} (h : NdIs w B K V D n) : ∃ (A1 : Option Addr) (n1 c1 : Nat) (A2 : Option Addr) (n2 c2 : Nat) (A3 : Option Addr) (n3 c3 : Nat), K = .slice A1 n1 c1 ∧ V = .slice A2 n2 c2 ∧ D = .slice A3 n3 c3 := by
  obtain ⟨A1, c1, A2, c2, A3, c3, e1, e2, e3⟩ := h.form
  exact ⟨A1, _, c1, A2, _, c2, A3, _, c3, e1, e2, e3⟩
end
end Go.Proofs.YtnmokkkbghlpbaaGreat
/-
  Bytes read one field after the other: fields.number, fields.text of package node, by contracts.
-/
namespace Go.Proofs.YtnmokkkbghlpbaaGreat
open Go.RowKit
/-- The number of s bytes at a place; 0, where they are not there. -/
def getN (b : List UInt8) (at_ s : Nat) : Nat := if at_ + s ≤ b.length then ofBe ((b.drop at_).take s) 0 else 0
/-- n bytes at a place; none, where they are not there. -/
def cutT (b : List UInt8) (at_ n : Nat) : List UInt8 := if at_ + n ≤ b.length then (b.drop at_).take n else []
theorem getN_lt (b : List UInt8) (at_ : Nat) {s : Nat} (hs : s ≤ 2) : getN b at_ s < 65536 := by
  unfold getN
  split
  · have h := ofBe_lt ((b.drop at_).take s) 0 0 (by decide)
    have h2 : 256 ^ (0 + ((b.drop at_).take s).length) ≤ 256 ^ 2 := Nat.pow_le_pow_right (by decide) (by simp; omega)
    have h3 : (256 : Nat) ^ 2 = 65536 := by decide
    omega
  · omega
theorem getN_byte (b : List UInt8) (at_ : Nat) : getN b at_ 1 < 256 := by
  unfold getN
  split
  · have h := ofBe_lt ((b.drop at_).take 1) 0 0 (by decide)
    have h2 : 256 ^ (0 + ((b.drop at_).take 1).length) ≤ 256 ^ 1 := Nat.pow_le_pow_right (by decide) (by simp; omega)
    omega
  · omega
theorem grown_set {w : World} {q : Nat} (j : Nat) (u : Value) : w.grownBy (w.drew.setCell ⟨q, j, none⟩ u) (some q) :=
  ⟨rfl, rfl, rfl, by simp, fun k _ hne => by rw [heap_setCell_other w.drew _ k u (show k ≠ q from fun e => hne (by rw [e]))]; rfl⟩
theorem ndGet_any (A : Option Addr) (c : Nat) (l : List UInt8) (a s : Nat) (w : World) (B : Nat) (hr : Rd w B (.slice A l.length c) (cellsB l)) (h1 : 1 ≤ s) (h2 : s ≤ 2) (ha : a ≤ 1000000) :
    Calls Tryz.prog 141 #[.slice A l.length c, .int .i64 (a : Int), .int .i64 (s : Int)] w fun e w' => ∃ ok, e = .returned (.tuple #[.int .u64 (getN l a s : Nat), .bool ok]) ∧ w = w' := by
  unfold getN
  by_cases h : a + s ≤ l.length
  · rw [if_pos h]
    exact (get_yes A c l a s w B hr h1 (by omega) h).mono (by rintro e w' ⟨rfl, rfl⟩; exact ⟨_, rfl, rfl⟩)
  · rw [if_neg h]
    obtain ⟨_, _, e, g1, g2, _⟩ := hr.bytes
    injection e with e1 e2 e3
    exact (get_no A l.length c a s w (by omega) (by omega) (.inr (.inr (by omega)))).mono (by rintro e w' ⟨rfl, rfl⟩; exact ⟨_, rfl, rfl⟩)
theorem cutT_any (A : Option Addr) (c : Nat) (l : List UInt8) (a s : Nat) (w : World) (B : Nat) (hr : Rd w B (.slice A l.length c) (cellsB l)) (hB : B ≤ w.heap.size) (hl : l.length ≤ 100000000) (ha : a ≤ 1000000) :
    Calls Tryz.prog 143 #[.slice A l.length c, .int .i64 (a : Int), .int .i64 (s : Int)] w fun e w' => ∃ v ok, e = .returned (.tuple #[v, .bool ok]) ∧ Mine w' w.heap.size 5 v (cellsB (cutT l a s)) ∧ Below w.heap.size w w' := by
  unfold cutT
  by_cases h : a + s ≤ l.length
  · rw [if_pos h]
    exact (cut_yes A c l a s w B hr hB hl h).mono (by rintro e w' ⟨v, rfl, q1, q2⟩; exact ⟨_, _, rfl, q1, q2⟩)
  · rw [if_neg h]
    obtain ⟨_, _, e, g1, g2, _⟩ := hr.bytes
    injection e with e1 e2 e3
    exact (cut_no A l.length c a s w (by omega) (by omega) (.inr (.inr (by omega)))).mono (by rintro e w' ⟨rfl, rfl⟩; exact ⟨_, _, rfl, Mine.nil _ _ _, Below.refl _ _⟩)
/-- The fields lie in block q. -/
def FldAt (w : World) (q : Nat) (v : Value) (at_ : Nat) : Prop := w.heap[q]? = some (.cells #[v, .int .i64 (at_ : Int)] 223 (0, 0))
set_option maxRecDepth 100000 in
set_option maxHeartbeats 400000 in
theorem fnum_any {q : Nat} {A : Option Addr} {c : Nat} {b : List UInt8} {at_ s : Nat} {w : World} {B : Nat} (hq : FldAt w q (.slice A b.length c) at_) (hr : Rd w B (.slice A b.length c) (cellsB b)) (h1 : 1 ≤ s) (h2 : s ≤ 2) (ha : at_ ≤ 1000000) :
    Calls Tryz.prog 144 #[.pointer (some ⟨q, 0, none⟩), .int .i64 (s : Int)] w fun e w' => e = .returned (.int .i64 (getN b at_ s : Nat)) ∧ FldAt w' q (.slice A b.length c) (at_ + s) ∧ w.grownBy w' (some q) := by
  have c0 : w.cell? ⟨q, 0, none⟩ = some (.slice A b.length c) := by rw [cell_of_row w q 0 _ _ (0, 0) hq]; rfl
  have c1 : w.cell? ⟨q, 1, none⟩ = some (.int .i64 (at_ : Int)) := by rw [cell_of_row w q 1 _ _ (0, 0) hq]; rfl
  have fz : w.frozen? ⟨q, 1, none⟩ = false := frozen_of_row w q 1 _ _ hq
  have hget := ndGet_any A c b at_ s w.drew B hr h1 h2 ha
  have hlt := getN_lt b at_ h2
  have hend : FldAt (w.drew.setCell ⟨q, 1, none⟩ (.int .i64 ((at_ : Int) + (s : Int)))) q (.slice A b.length c) (at_ + s) := heap_setCell_same w.drew q 1 _ _ _ hq
  obtain ⟨x, hx⟩ : ∃ x, x = getN b at_ s := ⟨_, rfl⟩
  obtain ⟨n, hn⟩ : ∃ n, n = b.length := ⟨_, rfl⟩
  rw [← hx] at hget hlt ⊢
  rw [← hn] at hget c0 hend ⊢
  have HG := Lib.hid hget
  have HE := Lib.hid hend
  have hx1 : (x : Int) < 65536 := by omega
  clear hq hr hget hlt hx hn hend
  go_enter Tryz.func144, Tryz.ntmps144
  go_wp2_with fail
  go_region_held3 (fun w' => w'.cell? ⟨q, 0, none⟩ = some (.slice A n c) ∧ w'.cell? ⟨q, 1, none⟩ = some (.int .i64 (at_ : Int)))
    (exact ⟨c0, c1⟩)
    (first | (go_at_call 141; refine HG.out.mono ?_; rintro e w1 ⟨ok, rfl, rfl⟩))
  go_wp2_with fail
  go_ret
  exact ⟨rfl, HE.out, grown_set 1 _⟩
theorem grownBy_two {w w1 w2 : World} {g : Option Nat} (h : w.grownBy w1 g) (h2 : w1.grownBy w2 g) : w.grownBy w2 g := h.trans h2
set_option maxRecDepth 100000 in
set_option maxHeartbeats 400000 in
theorem ftext_any {q : Nat} {A : Option Addr} {c : Nat} {b : List UInt8} {at_ : Nat} {w : World} {B : Nat} (hq : FldAt w q (.slice A b.length c) at_) (hr : Rd w B (.slice A b.length c) (cellsB b)) (hB : B ≤ q) (hl : b.length ≤ 100000000) (ha : at_ ≤ 900000) :
    Calls Tryz.prog 145 #[.pointer (some ⟨q, 0, none⟩)] w fun e w' => ∃ v, e = .returned v ∧ Mine w' w.heap.size 5 v (cellsB (cutT b (at_ + 1) (getN b at_ 1))) ∧ FldAt w' q (.slice A b.length c) (at_ + 1 + getN b at_ 1) ∧ w.grownBy w' (some q) := by
  have hnum := fnum_any (s := 1) hq hr (by omega) (by omega) (by omega)
  have hlt := getN_byte b at_
  have hqs : q < w.heap.size := (Array.getElem?_eq_some_iff.1 hq).1
  obtain ⟨x, hx⟩ : ∃ x, x = getN b at_ 1 := ⟨_, rfl⟩
  have hcut := fun (W : World) (hW : w.grownBy W (some q)) => cutT_any A c b (at_ + 1) x W.drew B (hr.keep fun p hp => World.cell?_of_block (hW.block p.block (by omega) fun e => by injection e with e; omega)) (by have := hW.size; show B ≤ W.heap.size; omega) hl (by omega)
  rw [← hx] at hnum hlt ⊢
  have hcells : ∀ W m, FldAt W q (.slice A b.length c) m → W.cell? ⟨q, 0, none⟩ = some (.slice A b.length c) ∧ W.cell? ⟨q, 1, none⟩ = some (.int .i64 (m : Int)) ∧ W.frozen? ⟨q, 1, none⟩ = false := fun W m h => ⟨by rw [cell_of_row W q 0 _ _ (0, 0) h]; rfl, by rw [cell_of_row W q 1 _ _ (0, 0) h]; rfl, frozen_of_row W q 1 _ _ h⟩
  obtain ⟨l, hL⟩ : ∃ l, l = cutT b (at_ + 1) x := ⟨_, rfl⟩
  obtain ⟨n, hn⟩ : ∃ n, n = b.length := ⟨_, rfl⟩
  rw [← hL] at hcut ⊢
  rw [← hn] at hnum hcells hcut ⊢
  have HN := Lib.hid hnum
  have HC := Lib.hid hcut
  have HCl := Lib.hid hcells
  have HQ := Lib.hid hqs
  clear hq hr hnum hcut hcells hx hn hL hB hl hqs
  go_enter Tryz.func145, Tryz.ntmps145
  go_wp2_with fail
  refine HN.out.mono ?_
  rintro e w1 ⟨rfl, hf1, hg1⟩
  obtain ⟨c0, c1, _⟩ := HCl.out w1 _ hf1
  have Hg1 := Lib.hid hg1
  have Hf1 := Lib.hid hf1
  have hcut := HC.out w1 hg1
  have ea : ((at_ + 1 : Nat) : Int) = (at_ : Int) + 1 := by omega
  clear hf1 hg1
  go_wp2_with fail
  go_region_held3 (fun w' => w'.cell? ⟨q, 0, none⟩ = some (.slice A n c) ∧ w'.cell? ⟨q, 1, none⟩ = some (.int .i64 ((at_ + 1 : Nat) : Int)))
    (first | exact S2.out | exact ⟨c0, c1⟩)
    (first | (go_at_call 143; refine hcut.mono ?_; rintro e w2 ⟨v, ok, rfl, hown, hb⟩; have Hb2 := Lib.hid ((up_drew (Below.refl w1.heap.size w1)).trans hb); have Ho2 := Lib.hid hown; have Hf2 := Lib.hid (((Hb2.out.block q (Nat.lt_of_lt_of_le HQ.out Hg1.out.size)).trans Hf1.out : FldAt w2 q _ _)); have S2 := Lib.hid (And.intro (HCl.out w2 _ Hf2.out).1 (HCl.out w2 _ Hf2.out).2.1); clear hb hown))
  obtain ⟨d0, d1, fz⟩ := HCl.out w2 _ Hf2.out
  go_wp2_with fail
  go_ret
  refine ⟨v, rfl, (Ho2.out.weaken Hg1.out.size).frK (B0 := 0) (Fr.set (base := w.heap.size) (B0 := 0) (Nat.zero_le _) HQ.out 1 _) (fun _ _ e => by cases e), ?_, ?_⟩
  · exact heap_setCell_same w2 q 1 _ _ _ Hf2.out
  · refine (Hg1.out.trans ⟨Hb2.out.os, Hb2.out.tape, Hb2.out.output, Hb2.out.size, fun k hk _ => Hb2.out.block k hk⟩).trans ⟨rfl, rfl, rfl, by simp, fun k _ hne => heap_setCell_other w2 _ k _ (show k ≠ q from fun e => hne (by rw [e]))⟩
end Go.Proofs.YtnmokkkbghlpbaaGreat
/-
  What is read of bytes, as data; read of package node, by contract.
-/
namespace Go.Proofs.YtnmokkkbghlpbaaGreat
open Go.RowKit
/-- What is read of k cells, and the place behind it. -/
def rdAt (leaf : Bool) (b : List UInt8) : Nat → Nd × Nat
  | 0 => (⟨leaf, [], [], if leaf then [] else [(getN b 1 2 : Int)]⟩, if leaf then 1 else 3)
  | k + 1 =>
    let r := rdAt leaf b k
    let key := cutT b (r.2 + 1) (getN b r.2 1)
    let m := r.2 + 1 + getN b r.2 1
    if leaf then (⟨leaf, r.1.keys ++ [key], r.1.vals ++ [cutT b (m + 1) (getN b m 1)], r.1.kids⟩, m + 1 + getN b m 1)
    else (⟨leaf, r.1.keys ++ [key], r.1.vals, r.1.kids ++ [(getN b m 2 : Int)]⟩, m + 2)
theorem rdAt_leaf (leaf : Bool) (b : List UInt8) : ∀ k, (rdAt leaf b k).1.leaf = leaf
  | 0 => rfl
  | k + 1 => by unfold rdAt; split <;> rfl
theorem rdAt_len (leaf : Bool) (b : List UInt8) : ∀ k, (rdAt leaf b k).2 ≤ 3 + 512 * k ∧ (rdAt leaf b k).1.keys.length = k ∧ (rdAt leaf b k).1.vals.length ≤ k ∧ (rdAt leaf b k).1.kids.length ≤ k + 1
  | 0 => by unfold rdAt; cases leaf <;> simp
  | k + 1 => by
    obtain ⟨h1, h2, h3, h4⟩ := rdAt_len leaf b k
    have g1 := getN_byte b (rdAt leaf b k).2
    have g2 := getN_byte b ((rdAt leaf b k).2 + 1 + getN b (rdAt leaf b k).2 1)
    unfold rdAt
    cases leaf
    · rw [if_neg (by decide)]
      refine ⟨?_, ?_, ?_, ?_⟩ <;> simp <;> omega
    · rw [if_pos rfl]
      refine ⟨?_, ?_, ?_, ?_⟩ <;> simp <;> omega
/-- read at work: its node, its fields, what it hands back. -/
structure RdW (w0 w : World) (lf : Bool) (bv : Value) (at_ : Nat) (tK tV tD uK uV uD : Value) (ks vs : List (List UInt8)) (ds : List Int) : Prop where
  nm : NdMk w 0 (w0.heap.size + 1 + 1 + 1) (w0.heap.size + 1) lf tK tV tD uK uV uD ks vs ds
  fld : FldAt w (w0.heap.size + 1 + 1) bv at_
  out : w.heap[w0.heap.size]? = some (.cells #[.bool false, .slice none 0 0, .slice none 0 0, .slice none 0 0] 126 (0, 0))
  below : Below w0.heap.size w0 w
section
variable {w0 w w' : World} {lf : Bool} {bv tK tV tD uK uV uD u : Value} {at_ at2 : Nat} {ks vs : List (List UInt8)} {ds : List Int} {l : List UInt8}
theorem RdW.kept (h : RdW w0 w lf bv at_ tK tV tD uK uV uD ks vs ds) (hb : Below (w0.heap.size + 1 + 1 + 1) w w') {uK' uV' uD' : Value} {ks' vs' : List (List UInt8)} {ds' : List Int}
    (hk : NdMk w' 0 (w0.heap.size + 1 + 1 + 1) (w0.heap.size + 1) lf tK tV tD uK' uV' uD' ks' vs' ds') : RdW w0 w' lf bv at_ tK tV tD uK' uV' uD' ks' vs' ds' :=
  ⟨hk, (hb.block (w0.heap.size + 1 + 1) (by omega)).trans h.fld, (hb.block w0.heap.size (by omega)).trans h.out, h.below.trans (hb.mono (by omega))⟩
theorem RdW.drew (h : RdW w0 w lf bv at_ tK tV tD uK uV uD ks vs ds) : RdW w0 w.drew lf bv at_ tK tV tD uK uV uD ks vs ds := ⟨h.nm.drew, h.fld, h.out, h.below.drew⟩
theorem RdW.field (h : RdW w0 w lf bv at_ tK tV tD uK uV uD ks vs ds) (hf : FldAt w' (w0.heap.size + 1 + 1) bv at2) (hg : w.grownBy w' (some (w0.heap.size + 1 + 1))) : RdW w0 w' lf bv at2 tK tV tD uK uV uD ks vs ds :=
  ⟨h.nm.inner hg (by omega) (by omega) (by omega), hf, (hg.block _ (by have := h.nm.le; omega) (by intro e; injection e with e; omega)).trans h.out, h.below.grown hg h.below.size fun k e => by injection e with e; omega⟩
theorem RdW.lit (h : RdW w0 w lf bv at_ tK tV tD uK uV uD ks vs ds) (o : Obj) : RdW w0 (w.alloc o) lf bv at_ tK tV tD uK uV uD ks vs ds :=
  h.kept ((Below.refl _ _).alloc h.nm.le _) (h.nm.alloc o)
theorem RdW.keyed (h : RdW w0 w lf bv at_ tK tV tD uK uV uD ks vs ds) (hu : Mine w' w.heap.size 5 u (cellsB l)) (h' : RdW w0 w' lf bv at2 tK tV tD uK uV uD ks vs ds) (hs : ks.length ≤ 100000) :
    ∃ A n c w2, (Builtin.append_ #[56, 56] 56 #[uK, .slice (some ⟨w'.heap.size, 0, none⟩) 1 1]).run Tryz.prog (w'.alloc (.cells #[u] 31)) = .ok (.slice A n c) w2 ∧ RdW w0 w2 lf bv at2 tK tV tD (.slice A n c) uV uD (ks ++ [l]) vs ds := by
  obtain ⟨A, n, c, w2, hr, hm, hb⟩ := h'.nm.appK1 (hu.txt h.nm.le) hs
  exact ⟨A, n, c, w2, hr, h'.kept hb hm⟩
theorem RdW.valed (h : RdW w0 w lf bv at_ tK tV tD uK uV uD ks vs ds) (hu : Mine w' w.heap.size 5 u (cellsB l)) (h' : RdW w0 w' lf bv at2 tK tV tD uK uV uD ks vs ds) (hs : vs.length ≤ 100000) :
    ∃ A n c w2, (Builtin.append_ #[56, 56] 56 #[uV, .slice (some ⟨w'.heap.size, 0, none⟩) 1 1]).run Tryz.prog (w'.alloc (.cells #[u] 31)) = .ok (.slice A n c) w2 ∧ RdW w0 w2 lf bv at2 tK tV tD uK (.slice A n c) uD ks (vs ++ [l]) ds := by
  obtain ⟨A, n, c, w2, hr, hm, hb⟩ := h'.nm.appV1 (hu.txt h.nm.le) hs
  exact ⟨A, n, c, w2, hr, h'.kept hb hm⟩
theorem RdW.kidded (h' : RdW w0 w' lf bv at2 tK tV tD uK uV uD ks vs ds) (i : Int) (hs : ds.length ≤ 100000) :
    ∃ A n c w2, (Builtin.append_ #[54, 54] 54 #[uD, .slice (some ⟨w'.heap.size, 0, none⟩) 1 1]).run Tryz.prog (w'.alloc (.cells #[.int .i64 i] 3)) = .ok (.slice A n c) w2 ∧ RdW w0 w2 lf bv at2 tK tV tD uK uV (.slice A n c) ks vs (ds ++ [i]) := by
  obtain ⟨A, n, c, w2, hr, hm, hb⟩ := h'.nm.appD1 i hs
  exact ⟨A, n, c, w2, hr, h'.kept hb hm⟩
theorem RdW.set_ (h : RdW w0 w lf bv at_ tK tV tD uK uV uD ks vs ds) {j : Nat} {x : Value} {tK' tV' tD' : Value} (hm : NdMk (w.setCell ⟨w0.heap.size + 1, j, none⟩ x) 0 (w0.heap.size + 1 + 1 + 1) (w0.heap.size + 1) lf tK' tV' tD' uK uV uD ks vs ds) :
    RdW w0 (w.setCell ⟨w0.heap.size + 1, j, none⟩ x) lf bv at_ tK' tV' tD' uK uV uD ks vs ds :=
  ⟨hm, (heap_setCell_other w _ _ x (show w0.heap.size + 1 + 1 ≠ w0.heap.size + 1 by omega)).trans h.fld, (heap_setCell_other w _ _ x (show w0.heap.size ≠ w0.heap.size + 1 by omega)).trans h.out, h.below.setCell (p := ⟨w0.heap.size + 1, j, none⟩) (by show w0.heap.size ≤ w0.heap.size + 1; omega) x⟩
theorem RdW.setK (h : RdW w0 w lf bv at_ tK tV tD uK uV uD ks vs ds) : RdW w0 (w.setCell ⟨w0.heap.size + 1, 1, none⟩ uK) lf bv at_ uK tV tD uK uV uD ks vs ds := h.set_ h.nm.setK
theorem RdW.setV (h : RdW w0 w lf bv at_ tK tV tD uK uV uD ks vs ds) : RdW w0 (w.setCell ⟨w0.heap.size + 1, 2, none⟩ uV) lf bv at_ tK uV tD uK uV uD ks vs ds := h.set_ h.nm.setV
theorem RdW.setD (h : RdW w0 w lf bv at_ tK tV tD uK uV uD ks vs ds) : RdW w0 (w.setCell ⟨w0.heap.size + 1, 3, none⟩ uD) lf bv at_ tK tV uD uK uV uD ks vs ds := h.set_ h.nm.setD
theorem RdW.text {A : Option Addr} {c : Nat} {b : List UInt8} (h : RdW w0 w lf (.slice A b.length c) at_ tK tV tD uK uV uD ks vs ds) (hr : Rd w0 w0.heap.size (.slice A b.length c) (cellsB b)) (hl : b.length ≤ 100000000) (ha : at_ ≤ 900000) :
    Calls Tryz.prog 145 #[.pointer (some ⟨w0.heap.size + 1 + 1, 0, none⟩)] w fun e w' => ∃ A1 c1, e = .returned (.slice A1 (cutT b (at_ + 1) (getN b at_ 1)).length c1) ∧ Mine w' w.heap.size 5 (.slice A1 (cutT b (at_ + 1) (getN b at_ 1)).length c1) (cellsB (cutT b (at_ + 1) (getN b at_ 1))) ∧ RdW w0 w' lf (.slice A b.length c) (at_ + 1 + getN b at_ 1) tK tV tD uK uV uD ks vs ds := by
  refine (ftext_any h.fld (hr.below h.below) (by omega) hl ha).mono ?_
  rintro e w' ⟨v, rfl, hown, hf, hg⟩
  obtain ⟨A1, c1, rfl⟩ := hown.form
  rw [cellsB_length] at hown ⊢
  exact ⟨A1, c1, rfl, hown, h.field hf hg⟩
theorem RdW.number {A : Option Addr} {c : Nat} {b : List UInt8} {s : Nat} (h : RdW w0 w lf (.slice A b.length c) at_ tK tV tD uK uV uD ks vs ds) (hr : Rd w0 w0.heap.size (.slice A b.length c) (cellsB b)) (h1 : 1 ≤ s) (h2 : s ≤ 2) (ha : at_ ≤ 900000) :
    Calls Tryz.prog 144 #[.pointer (some ⟨w0.heap.size + 1 + 1, 0, none⟩), .int .i64 (s : Int)] w fun e w' => e = .returned (.int .i64 (getN b at_ s : Nat)) ∧ RdW w0 w' lf (.slice A b.length c) (at_ + s) tK tV tD uK uV uD ks vs ds := by
  refine (fnum_any h.fld (hr.below h.below) h1 h2 (by omega)).mono ?_
  rintro e w' ⟨rfl, hf, hg⟩
  exact ⟨rfl, h.field hf hg⟩
theorem RdW.start {bv : Value} : RdW w0 (((w0.alloc (.cells #[.bool false, .slice none 0 0, .slice none 0 0, .slice none 0 0] 126)).alloc (.cells #[.bool lf, .slice none 0 0, .slice none 0 0, .slice none 0 0] 126)).alloc (.cells #[bv, .int .i64 0] 223)) lf bv 0 (.slice none 0 0) (.slice none 0 0) (.slice none 0 0) (.slice none 0 0) (.slice none 0 0) (.slice none 0 0) [] [] [] := by
  have e1 : (w0.alloc (.cells #[.bool false, .slice none 0 0, .slice none 0 0, .slice none 0 0] 126)).heap.size = w0.heap.size + 1 := by simp
  have e2 : ((w0.alloc (.cells #[.bool false, .slice none 0 0, .slice none 0 0, .slice none 0 0] 126)).alloc (.cells #[.bool lf, .slice none 0 0, .slice none 0 0, .slice none 0 0] 126)).heap.size = w0.heap.size + 1 + 1 := by simp
  refine ⟨⟨?_, OwnT.nil _ _ _, OwnT.nil _ _ _, Mine.nil _ _ _, (fun k h => by cases h), by omega, by omega, by simp⟩, ?_, ?_, ?_⟩
  · rw [heap_alloc_old _ _ (by rw [e2]; omega), ← e1]
    exact heap_alloc_last _ _
  · unfold FldAt
    rw [← e2]
    exact heap_alloc_last _ _
  · rw [heap_alloc_old _ _ (by rw [e2]; omega), heap_alloc_old _ _ (by rw [e1]; omega)]
    exact heap_alloc_last _ _
  · exact (((Below.refl _ _).alloc (Nat.le_refl _) _).alloc (by rw [e1]; omega) _).alloc (by rw [e2]; omega) _
end
set_option maxRecDepth 100000 in
set_option maxHeartbeats 1600000 in
theorem read_leaf (A : Option Addr) (c : Nat) (b : List UInt8) (w : World) (hr : Rd w w.heap.size (.slice A b.length c) (cellsB b)) (hl : b.length ≤ 100000000) :
    Calls Tryz.prog 117 #[.bool true, .slice A b.length c] w fun e w' => ∃ K V D, e = .returned (ndVal true K V D) ∧ NdNew w' w.heap.size K V D (rdAt true b (getN b 0 1)).1 ∧ Below w.heap.size w w' := by
  have hnum := fun (w1 : World) (h : RdW w w1 true (.slice A b.length c) 0 (.slice none 0 0) (.slice none 0 0) (.slice none 0 0) (.slice none 0 0) (.slice none 0 0) (.slice none 0 0) [] [] []) => h.number (s := 1) hr (by omega) (by omega) (by omega)
  have htext := fun (w1 : World) (at_ : Nat) (tK tV tD : Value) (ks vs : List (List UInt8)) (ds : List Int) (h : RdW w w1 true (.slice A b.length c) at_ tK tV tD tK tV tD ks vs ds) (ha : at_ ≤ 900000) => h.text hr hl ha
  have hstart := RdW.start (w0 := w) (lf := true) (bv := .slice A b.length c)
  have hlen := rdAt_len true b
  have hcnt := getN_byte b 0
  obtain ⟨nb, hbv⟩ : ∃ nb, nb = b.length := ⟨_, rfl⟩
  rw [← hbv] at hnum htext hstart ⊢
  obtain ⟨n, hn⟩ : ∃ n, n = getN b 0 1 := ⟨_, rfl⟩
  rw [← hn] at hnum hcnt ⊢
  have HN0 := Lib.hid (hnum _ hstart)
  have HT := Lib.hid htext
  have HL := Lib.hid hlen
  have HB := Lib.hid hbv
  clear hnum htext hstart hlen hr hl hn hbv
  go_enter Tryz.func117, Tryz.ntmps117
  go_wp2_with fail
  refine HN0.out.mono ?_
  rintro e w1 ⟨rfl, h1⟩
  have H1 := Lib.hid h1
  clear h1
  go_wp2_with fail
  go_loopw [22] (fun iv wr => ∃ (k : Nat) (tK tV tD : Value), k ≤ n ∧ iv = .int .i64 (k : Int) ∧ Hid (RdW w wr true (.slice A nb c) (rdAt true b k).2 tK tV tD tK tV tD (rdAt true b k).1.keys (rdAt true b k).1.vals (rdAt true b k).1.kids)) (fun iv _ => n - (intOf iv).toNat)
  case atStart => exact ⟨0, _, _, _, Nat.zero_le _, rfl, H1⟩
  case round =>
    obtain ⟨k, tK, tV, tD, hkn, rfl, HI⟩ := hrel
    by_cases hk : k < n
    · have hl1 := HL.out k
      obtain ⟨at_, hat⟩ : ∃ a, a = (rdAt true b k).2 := ⟨_, rfl⟩
      obtain ⟨ks, hks⟩ : ∃ a, a = (rdAt true b k).1.keys := ⟨_, rfl⟩
      obtain ⟨vs, hvs⟩ : ∃ a, a = (rdAt true b k).1.vals := ⟨_, rfl⟩
      obtain ⟨ds, hds⟩ : ∃ a, a = (rdAt true b k).1.kids := ⟨_, rfl⟩
      have hw := HI.out
      rw [← hat, ← hks, ← hvs, ← hds] at hw hl1
      have hm1 := getN_byte b at_
      have hstep : rdAt true b (k + 1) = (⟨true, ks ++ [cutT b (at_ + 1) (getN b at_ 1)], vs ++ [cutT b (at_ + 1 + getN b at_ 1 + 1) (getN b (at_ + 1 + getN b at_ 1) 1)], ds⟩, at_ + 1 + getN b at_ 1 + 1 + getN b (at_ + 1 + getN b at_ 1) 1) := by rw [hks, hvs, hds, hat]; rfl
      have htx := HT.out wr.drew at_ tK tV tD ks vs ds hw.drew (by omega)
      obtain ⟨La, hLa⟩ : ∃ L, L = cutT b (at_ + 1) (getN b at_ 1) := ⟨_, rfl⟩
      rw [← hLa] at htx hstep
      have HWa := Lib.hid hw
      have HNa := Lib.hid htx
      have HStep := Lib.hid hstep
      have HSha := Lib.hid (show ks.length ≤ 1000 by omega)
      have HShb := Lib.hid (show vs.length ≤ 1000 by omega)
      have HAt := Lib.hid (show at_ + 1 + getN b at_ 1 ≤ 900000 by omega)
      clear hl1 hat hks hvs hds hw hm1 hstep htx HI hLa
      go_wp2_with fail
      have S0 : wr.cell? ⟨w.heap.size + 1, 1, none⟩ = some tK := HWa.out.nm.c1
      refine wp_region_late (S := fun w' => w'.cell? ⟨w.heap.size + 1, 1, none⟩ = some tK) [6] (by kernel_rfl) S0 (fun hHeld => ?_)
      refine' anyU_take0 (i := 0) (oi := ⟨some 24, .fieldAddr 126 (.tmp 5) 1, _, _, _, none⟩) (v := _) rfl (by kernel_rfl) (fun _ _ _ h => h) (Or.inl ⟨by rfl, ?hy1⟩) (by assumption) ?rest1
      case hy1 => (intro w hSw; go_simp <;> with_reducible rfl)
      case rest1 =>
      go_frame
      refine' anyU_take (i := 1) (oi := ⟨some 25, .load 56 (.tmp 24), _, _, _, none⟩) (v := _) rfl (by kernel_rfl) (fun _ _ _ h => h) (Or.inl ⟨by rfl, ?hy2⟩) (by assumption) ?rest2
      case hy2 => (intro w hSw; obtain s1 := hSw; go_simp <;> with_reducible rfl)
      case rest2 =>
      go_frame
      refine anyU_ready (rs := [2]) (by kernel_rfl) (by simp) (AllU.cons (o := ⟨some 26, .call { callee := .value (.func 145), args := #[.tmp 6], argTypes := #[223] }, _, _, _, none⟩) rfl (fun K hK => ?_) (fun h => absurd h (by decide)) AllU.nil)
      rw [if_pos (by rfl)]
      go_simp
      refine (HNa.out).mono ?_
      rintro e wa ⟨A1, c1, rfl, hu, ha⟩
      obtain ⟨Ana, nna, cna, wb, hrb, hb⟩ := HWa.out.drew.keyed hu ha (by have := HSha.out; omega)
      have Sa := Lib.hid (ha.nm.c1)
      have Sb := Lib.hid ((ha.lit (.cells #[.slice A1 La.length c1] 31)).nm.c1)
      have Sc := Lib.hid hb.nm.c1
      have Hrb := Lib.hid hrb
      have Hb := Lib.hid hb
      clear ha hrb hb hu
      dsimp only
      refine hK.out _ _ (fun _ => Sa.out) ?_
      clear hK K
      try go_frame
      refine anyU_ready (rs := [3]) (by kernel_rfl) (by simp) (AllU.cons (o := ⟨some 27, .buildSlice 56 1 #[(0, .tmp 26)], _, _, _, none⟩) rfl (fun K hK => ?_) (fun h => absurd h (by decide)) AllU.nil)
      rw [if_pos (by rfl)]
      go_simp
      refine hK.out _ _ (fun _ => Sb.out) ?_
      clear hK K
      try go_frame
      refine anyU_ready (rs := [4]) (by kernel_rfl) (by simp) (AllU.cons (o := ⟨some 28, .call { callee := .builtin .append, args := #[.tmp 25, .tmp 27], argTypes := #[56, 56] }, _, _, _, none⟩) rfl (fun K hK => ?_) (fun h => absurd h (by decide)) AllU.nil)
      rw [if_pos (by rfl)]
      refine wp_run (.slice Ana nna cna) wb (exec_append (t := 56) (x := .tmp 25) (y := .tmp 27) rfl rfl rfl Hrb.out) ?_
      refine hK.out _ _ (fun _ => Sc.out) ?_
      clear hK K
      go_frame
      have fzb := Hb.out.nm.fz 1
      have cb := Sc.out
      refine' anyU_take0 (i := 5) (oi := ⟨some 29, .fieldAddr 126 (.tmp 5) 1, _, _, _, none⟩) (v := _) rfl (by kernel_rfl) (fun _ _ _ h => h) (Or.inl ⟨by rfl, ?hy3⟩) (by assumption) ?rest3
      case hy3 => (intro w hSw; go_simp <;> with_reducible rfl)
      case rest3 =>
      go_frame
      refine anyU_ready (rs := [6]) (by kernel_rfl) (by simp) (AllU.cons (o := ⟨none, .store 56 (.tmp 29) (.tmp 28), _, _, _, none⟩) rfl (fun K hK => ?_) (fun _ => by kernel_rfl) AllU.nil)
      rw [if_pos (by rfl)]
      go_simp
      refine hK.out _ _ (fun h => absurd h (by decide)) ?_
      clear hK K
      try go_frame
      refine anyU_done (by kernel_rfl) ?_ _
      go_wp2_with fail
      have hw2 := Hb.out.setK
      obtain ⟨wv, hwv⟩ : ∃ wv, wv = wb.setCell ⟨w.heap.size + 1, 1, none⟩ (.slice Ana nna cna) := ⟨_, rfl⟩
      rw [← hwv] at hw2 ⊢
      have htx2 := HT.out wv.drew _ _ _ _ _ _ _ hw2.drew HAt.out
      have hstep := HStep.out
      obtain ⟨Lb, hLb⟩ : ∃ L, L = cutT b (at_ + 1 + getN b at_ 1 + 1) (getN b (at_ + 1 + getN b at_ 1) 1) := ⟨_, rfl⟩
      rw [← hLb] at htx2 hstep
      have HStep2 := Lib.hid hstep
      have HWb := Lib.hid hw2
      have HNb := Lib.hid htx2
      clear hw2 htx2 hwv hstep HStep hLb Hb Sa Sb Sc Hrb fzb cb S0
      have S0 : wv.cell? ⟨w.heap.size + 1, 2, none⟩ = some tV := HWb.out.nm.c2
      refine wp_region_late (S := fun w' => w'.cell? ⟨w.heap.size + 1, 2, none⟩ = some tV) [6] (by kernel_rfl) S0 (fun hHeld => ?_)
      refine' anyU_take0 (i := 0) (oi := ⟨some 31, .fieldAddr 126 (.tmp 5) 2, _, _, _, none⟩) (v := _) rfl (by kernel_rfl) (fun _ _ _ h => h) (Or.inl ⟨by rfl, ?hy4⟩) (by assumption) ?rest4
      case hy4 => (intro w hSw; go_simp <;> with_reducible rfl)
      case rest4 =>
      go_frame
      refine' anyU_take (i := 1) (oi := ⟨some 32, .load 56 (.tmp 31), _, _, _, none⟩) (v := _) rfl (by kernel_rfl) (fun _ _ _ h => h) (Or.inl ⟨by rfl, ?hy5⟩) (by assumption) ?rest5
      case hy5 => (intro w hSw; obtain s1 := hSw; go_simp <;> with_reducible rfl)
      case rest5 =>
      go_frame
      refine anyU_ready (rs := [2]) (by kernel_rfl) (by simp) (AllU.cons (o := ⟨some 33, .call { callee := .value (.func 145), args := #[.tmp 6], argTypes := #[223] }, _, _, _, none⟩) rfl (fun K hK => ?_) (fun h => absurd h (by decide)) AllU.nil)
      rw [if_pos (by rfl)]
      go_simp
      refine (HNb.out).mono ?_
      rintro e wa ⟨A1, c1, rfl, hu, ha⟩
      obtain ⟨Anb, nnb, cnb, wb, hrb, hb⟩ := HWb.out.drew.valed hu ha (by have := HShb.out; omega)
      have Sa := Lib.hid (ha.nm.c2)
      have Sb := Lib.hid ((ha.lit (.cells #[.slice A1 Lb.length c1] 31)).nm.c2)
      have Sc := Lib.hid hb.nm.c2
      have Hrb := Lib.hid hrb
      have Hb := Lib.hid hb
      clear ha hrb hb hu
      dsimp only
      refine hK.out _ _ (fun _ => Sa.out) ?_
      clear hK K
      try go_frame
      refine anyU_ready (rs := [3]) (by kernel_rfl) (by simp) (AllU.cons (o := ⟨some 34, .buildSlice 56 1 #[(0, .tmp 33)], _, _, _, none⟩) rfl (fun K hK => ?_) (fun h => absurd h (by decide)) AllU.nil)
      rw [if_pos (by rfl)]
      go_simp
      refine hK.out _ _ (fun _ => Sb.out) ?_
      clear hK K
      try go_frame
      refine anyU_ready (rs := [4]) (by kernel_rfl) (by simp) (AllU.cons (o := ⟨some 35, .call { callee := .builtin .append, args := #[.tmp 32, .tmp 34], argTypes := #[56, 56] }, _, _, _, none⟩) rfl (fun K hK => ?_) (fun h => absurd h (by decide)) AllU.nil)
      rw [if_pos (by rfl)]
      refine wp_run (.slice Anb nnb cnb) wb (exec_append (t := 56) (x := .tmp 32) (y := .tmp 34) rfl rfl rfl Hrb.out) ?_
      refine hK.out _ _ (fun _ => Sc.out) ?_
      clear hK K
      go_frame
      have fzb := Hb.out.nm.fz 2
      have cb := Sc.out
      refine' anyU_take0 (i := 5) (oi := ⟨some 36, .fieldAddr 126 (.tmp 5) 2, _, _, _, none⟩) (v := _) rfl (by kernel_rfl) (fun _ _ _ h => h) (Or.inl ⟨by rfl, ?hy6⟩) (by assumption) ?rest6
      case hy6 => (intro w hSw; go_simp <;> with_reducible rfl)
      case rest6 =>
      go_frame
      refine anyU_ready (rs := [6]) (by kernel_rfl) (by simp) (AllU.cons (o := ⟨none, .store 56 (.tmp 36) (.tmp 35), _, _, _, none⟩) rfl (fun K hK => ?_) (fun _ => by kernel_rfl) AllU.nil)
      rw [if_pos (by rfl)]
      go_simp
      refine hK.out _ _ (fun h => absurd h (by decide)) ?_
      clear hK K
      try go_frame
      refine anyU_done (by kernel_rfl) ?_ _
      go_wp2_with fail
      have hw3 := Hb.out.setV
      go_roundw
      case rel =>
        refine ⟨k + 1, .slice Ana nna cna, .slice Anb nnb cnb, tD, by omega, by go_num, Lib.hid ?_⟩
        rw [HStep2.out]
        exact hw3
      case measure => simp [intOf]; omega
    · have : k = n := by omega
      subst this
      have hw := HI.out
      obtain ⟨A1, n1, c1, A2, n2, c2, A3, n3, c3, rfl, rfl, rfl⟩ := hw.nm.is.slices
      obtain ⟨x0, x1, x2, x3⟩ := hw.nm.box
      obtain ⟨y0, y1, y2, y3, f0, f1, f2, f3⟩ := out_cells hw.out
      obtain ⟨W, hW⟩ : ∃ W, W = store4 wr w.heap.size true (.slice A1 n1 c1) (.slice A2 n2 c2) (.slice A3 n3 c3) := ⟨_, rfl⟩
      have hbx := box_of_top (store4_top (lf := true) (K := .slice A1 n1 c1) (V := .slice A2 n2 c2) (D := .slice A3 n3 c3) hw.out)
      have hfi := (hw.nm.new rfl).store4 (lf := true) (K := .slice A1 n1 c1) (V := .slice A2 n2 c2) (D := .slice A3 n3 c3) (N := w.heap.size) (by omega)
      have hfb := hw.below.trans (store4_below (w := wr) (lf := true) (K := .slice A1 n1 c1) (V := .slice A2 n2 c2) (D := .slice A3 n3 c3) (Nat.le_refl w.heap.size))
      rw [← hW] at hbx hfi hfb
      obtain ⟨q0, q1, q2, q3⟩ := hbx
      have HFi := Lib.hid hfi
      have HFb := Lib.hid hfb
      have HWW := Lib.hid hW
      clear hw HI hfi hfb hW
      go_wp2_with fail
      have hW := HWW.out
      unfold store4 at hW
      rw [← hW]
      refine bodyPost_ret (v := ndVal true (.slice A1 n1 c1) (.slice A2 n2 c2) (.slice A3 n3 c3)) (by simp [results, Tryz.results117, go_sem, q0, q1, q2, q3]) rfl ⟨_, _, _, rfl, ?_, HFb.out⟩
      have hx := HFi.out
      have e := rdAt_leaf true b k
      obtain ⟨rd, hrd⟩ : ∃ r, r = (rdAt true b k).1 := ⟨_, rfl⟩
      rw [← hrd] at e hx ⊢
      obtain ⟨l1, l2, l3, l4⟩ := rd
      dsimp only at e hx
      subst e
      exact (NdNew.mk hx.keys hx.vals hx.kids).weaken (by omega)
end Go.Proofs.YtnmokkkbghlpbaaGreat
/-
  read of package node of what is no leaf, by contract.
-/
namespace Go.Proofs.YtnmokkkbghlpbaaGreat
open Go.RowKit
set_option maxRecDepth 100000 in
set_option maxHeartbeats 1600000 in
theorem read_not (A : Option Addr) (c : Nat) (b : List UInt8) (w : World) (hr : Rd w w.heap.size (.slice A b.length c) (cellsB b)) (hl : b.length ≤ 100000000) :
    Calls Tryz.prog 117 #[.bool false, .slice A b.length c] w fun e w' => ∃ K V D, e = .returned (ndVal false K V D) ∧ NdNew w' w.heap.size K V D (rdAt false b (getN b 0 1)).1 ∧ Below w.heap.size w w' := by
  have hnum := fun (w1 : World) (h : RdW w w1 false (.slice A b.length c) 0 (.slice none 0 0) (.slice none 0 0) (.slice none 0 0) (.slice none 0 0) (.slice none 0 0) (.slice none 0 0) [] [] []) => h.number (s := 1) hr (by omega) (by omega) (by omega)
  have htext := fun (w1 : World) (at_ : Nat) (tK tV tD : Value) (ks vs : List (List UInt8)) (ds : List Int) (h : RdW w w1 false (.slice A b.length c) at_ tK tV tD tK tV tD ks vs ds) (ha : at_ ≤ 900000) => h.text hr hl ha
  have hstart := RdW.start (w0 := w) (lf := false) (bv := .slice A b.length c)
  have hnum2 := fun (w1 : World) (at_ : Nat) (tK tV tD : Value) (ks vs : List (List UInt8)) (ds : List Int) (h : RdW w w1 false (.slice A b.length c) at_ tK tV tD tK tV tD ks vs ds) (ha : at_ ≤ 900000) => h.number (s := 2) hr (by omega) (by omega) ha
  have hlen := rdAt_len false b
  have hcnt := getN_byte b 0
  obtain ⟨nb, hbv⟩ : ∃ nb, nb = b.length := ⟨_, rfl⟩
  rw [← hbv] at hnum hnum2 htext hstart ⊢
  obtain ⟨n, hn⟩ : ∃ n, n = getN b 0 1 := ⟨_, rfl⟩
  rw [← hn] at hnum hcnt ⊢
  have HN0 := Lib.hid (hnum _ hstart)
  have HT := Lib.hid htext
  have HN2 := Lib.hid hnum2
  have HL := Lib.hid hlen
  have HB := Lib.hid hbv
  clear hnum hnum2 htext hstart hlen hr hl hn hbv
  go_enter Tryz.func117, Tryz.ntmps117
  go_wp2_with fail
  refine HN0.out.mono ?_
  rintro e w1 ⟨rfl, h1⟩
  have hnk := HN2.out w1.drew _ _ _ _ _ _ _ h1.drew (by omega)
  obtain ⟨xk, hxk⟩ : ∃ x, x = getN b (0 + 1) 2 := ⟨_, rfl⟩
  have hini : rdAt false b 0 = (⟨false, [], [], [(getN b 1 2 : Int)]⟩, 3) := by simp [rdAt]
  rw [← hxk] at hnk
  rw [show getN b 1 2 = getN b (0 + 1) 2 from rfl, ← hxk] at hini
  have HIni := Lib.hid hini
  have HNk := Lib.hid hnk
  have HWk := Lib.hid h1
  have HShk := Lib.hid (show ([] : List Int).length ≤ 1000 by simp)
  clear h1 hnk hini hxk
  go_wp2_with fail
  have S0 : w1.cell? ⟨w.heap.size + 1, 3, none⟩ = some (.slice none 0 0) := HWk.out.nm.c3
  refine wp_region_late (S := fun w' => w'.cell? ⟨w.heap.size + 1, 3, none⟩ = some (.slice none 0 0)) [6] (by kernel_rfl) S0 (fun hHeld => ?_)
  refine' anyU_take0 (i := 0) (oi := ⟨some 15, .fieldAddr 126 (.tmp 5) 3, _, _, _, none⟩) (v := _) rfl (by kernel_rfl) (fun _ _ _ h => h) (Or.inl ⟨by rfl, ?hy7⟩) (by assumption) ?rest7
  case hy7 => (intro w hSw; go_simp <;> with_reducible rfl)
  case rest7 =>
  go_frame
  refine' anyU_take (i := 1) (oi := ⟨some 16, .load 54 (.tmp 15), _, _, _, none⟩) (v := _) rfl (by kernel_rfl) (fun _ _ _ h => h) (Or.inl ⟨by rfl, ?hy8⟩) (by assumption) ?rest8
  case hy8 => (intro w hSw; obtain s1 := hSw; go_simp <;> with_reducible rfl)
  case rest8 =>
  go_frame
  refine anyU_ready (rs := [2]) (by kernel_rfl) (by simp) (AllU.cons (o := ⟨some 17, .call { callee := .value (.func 144), args := #[.tmp 6, .const (.int .i64 2)], argTypes := #[223, 3] }, _, _, _, none⟩) rfl (fun K hK => ?_) (fun h => absurd h (by decide)) AllU.nil)
  rw [if_pos (by rfl)]
  go_simp
  refine (HNk.out).mono ?_
  rintro e wa ⟨rfl, ha⟩
  obtain ⟨Ank, nnk, cnk, wb, hrb, hb⟩ := ha.kidded (xk : Int) (by have := HShk.out; omega)
  have Sa := Lib.hid (ha.nm.c3)
  have Sb := Lib.hid ((ha.lit (.cells #[.int .i64 (xk : Int)] 3)).nm.c3)
  have Sc := Lib.hid hb.nm.c3
  have Hrb := Lib.hid hrb
  have Hb := Lib.hid hb
  clear ha hrb hb
  dsimp only
  refine hK.out _ _ (fun _ => Sa.out) ?_
  clear hK K
  try go_frame
  refine anyU_ready (rs := [3]) (by kernel_rfl) (by simp) (AllU.cons (o := ⟨some 18, .buildSlice 54 1 #[(0, .tmp 17)], _, _, _, none⟩) rfl (fun K hK => ?_) (fun h => absurd h (by decide)) AllU.nil)
  rw [if_pos (by rfl)]
  go_simp
  refine hK.out _ _ (fun _ => Sb.out) ?_
  clear hK K
  try go_frame
  refine anyU_ready (rs := [4]) (by kernel_rfl) (by simp) (AllU.cons (o := ⟨some 19, .call { callee := .builtin .append, args := #[.tmp 16, .tmp 18], argTypes := #[54, 54] }, _, _, _, none⟩) rfl (fun K hK => ?_) (fun h => absurd h (by decide)) AllU.nil)
  rw [if_pos (by rfl)]
  refine wp_run (.slice Ank nnk cnk) wb (exec_append (t := 54) (x := .tmp 16) (y := .tmp 18) rfl rfl rfl Hrb.out) ?_
  refine hK.out _ _ (fun _ => Sc.out) ?_
  clear hK K
  go_frame
  have fzb := Hb.out.nm.fz 3
  have cb := Sc.out
  refine' anyU_take0 (i := 5) (oi := ⟨some 20, .fieldAddr 126 (.tmp 5) 3, _, _, _, none⟩) (v := _) rfl (by kernel_rfl) (fun _ _ _ h => h) (Or.inl ⟨by rfl, ?hy9⟩) (by assumption) ?rest9
  case hy9 => (intro w hSw; go_simp <;> with_reducible rfl)
  case rest9 =>
  go_frame
  refine anyU_ready (rs := [6]) (by kernel_rfl) (by simp) (AllU.cons (o := ⟨none, .store 54 (.tmp 20) (.tmp 19), _, _, _, none⟩) rfl (fun K hK => ?_) (fun _ => by kernel_rfl) AllU.nil)
  rw [if_pos (by rfl)]
  go_simp
  refine hK.out _ _ (fun h => absurd h (by decide)) ?_
  clear hK K
  try go_frame
  refine anyU_done (by kernel_rfl) ?_ _
  go_wp2_with fail
  have hw0 := Hb.out.setD
  obtain ⟨w9, hw9⟩ : ∃ wv, wv = wb.setCell ⟨w.heap.size + 1, 3, none⟩ (.slice Ank nnk cnk) := ⟨_, rfl⟩
  rw [← hw9] at hw0 ⊢
  have H1 : Hid (RdW w w9 false (.slice A nb c) (rdAt false b 0).2 (.slice none 0 0) (.slice none 0 0) (.slice Ank nnk cnk) (.slice none 0 0) (.slice none 0 0) (.slice Ank nnk cnk) (rdAt false b 0).1.keys (rdAt false b 0).1.vals (rdAt false b 0).1.kids) := Lib.hid (by rw [HIni.out]; exact hw0)
  clear hw0 hw9 Hb Sa Sb Sc Hrb fzb cb S0
  go_loopw [22] (fun iv wr => ∃ (k : Nat) (tK tV tD : Value), k ≤ n ∧ iv = .int .i64 (k : Int) ∧ Hid (RdW w wr false (.slice A nb c) (rdAt false b k).2 tK tV tD tK tV tD (rdAt false b k).1.keys (rdAt false b k).1.vals (rdAt false b k).1.kids)) (fun iv _ => n - (intOf iv).toNat)
  case atStart => exact ⟨0, _, _, _, Nat.zero_le _, rfl, H1⟩
  case round =>
    obtain ⟨k, tK, tV, tD, hkn, rfl, HI⟩ := hrel
    by_cases hk : k < n
    · have hl1 := HL.out k
      obtain ⟨at_, hat⟩ : ∃ a, a = (rdAt false b k).2 := ⟨_, rfl⟩
      obtain ⟨ks, hks⟩ : ∃ a, a = (rdAt false b k).1.keys := ⟨_, rfl⟩
      obtain ⟨vs, hvs⟩ : ∃ a, a = (rdAt false b k).1.vals := ⟨_, rfl⟩
      obtain ⟨ds, hds⟩ : ∃ a, a = (rdAt false b k).1.kids := ⟨_, rfl⟩
      have hw := HI.out
      rw [← hat, ← hks, ← hvs, ← hds] at hw hl1
      have hm1 := getN_byte b at_
      have hstep : rdAt false b (k + 1) = (⟨false, ks ++ [cutT b (at_ + 1) (getN b at_ 1)], vs, ds ++ [(getN b (at_ + 1 + getN b at_ 1) 2 : Int)]⟩, at_ + 1 + getN b at_ 1 + 2) := by rw [hks, hvs, hds, hat]; rfl
      have htx := HT.out wr.drew at_ tK tV tD ks vs ds hw.drew (by omega)
      obtain ⟨La, hLa⟩ : ∃ L, L = cutT b (at_ + 1) (getN b at_ 1) := ⟨_, rfl⟩
      rw [← hLa] at htx hstep
      have HWa := Lib.hid hw
      have HNa := Lib.hid htx
      have HStep := Lib.hid hstep
      have HSha := Lib.hid (show ks.length ≤ 1000 by omega)
      have HShb := Lib.hid (show ds.length ≤ 1000 by omega)
      have HAt := Lib.hid (show at_ + 1 + getN b at_ 1 ≤ 900000 by omega)
      clear hl1 hat hks hvs hds hw hm1 hstep htx HI hLa
      go_wp2_with fail
      have S0 : wr.cell? ⟨w.heap.size + 1, 1, none⟩ = some tK := HWa.out.nm.c1
      refine wp_region_late (S := fun w' => w'.cell? ⟨w.heap.size + 1, 1, none⟩ = some tK) [6] (by kernel_rfl) S0 (fun hHeld => ?_)
      refine' anyU_take0 (i := 0) (oi := ⟨some 24, .fieldAddr 126 (.tmp 5) 1, _, _, _, none⟩) (v := _) rfl (by kernel_rfl) (fun _ _ _ h => h) (Or.inl ⟨by rfl, ?hy1⟩) (by assumption) ?rest1
      case hy1 => (intro w hSw; go_simp <;> with_reducible rfl)
      case rest1 =>
      go_frame
      refine' anyU_take (i := 1) (oi := ⟨some 25, .load 56 (.tmp 24), _, _, _, none⟩) (v := _) rfl (by kernel_rfl) (fun _ _ _ h => h) (Or.inl ⟨by rfl, ?hy2⟩) (by assumption) ?rest2
      case hy2 => (intro w hSw; obtain s1 := hSw; go_simp <;> with_reducible rfl)
      case rest2 =>
      go_frame
      refine anyU_ready (rs := [2]) (by kernel_rfl) (by simp) (AllU.cons (o := ⟨some 26, .call { callee := .value (.func 145), args := #[.tmp 6], argTypes := #[223] }, _, _, _, none⟩) rfl (fun K hK => ?_) (fun h => absurd h (by decide)) AllU.nil)
      rw [if_pos (by rfl)]
      go_simp
      refine (HNa.out).mono ?_
      rintro e wa ⟨A1, c1, rfl, hu, ha⟩
      obtain ⟨Ana, nna, cna, wb, hrb, hb⟩ := HWa.out.drew.keyed hu ha (by have := HSha.out; omega)
      have Sa := Lib.hid (ha.nm.c1)
      have Sb := Lib.hid ((ha.lit (.cells #[.slice A1 La.length c1] 31)).nm.c1)
      have Sc := Lib.hid hb.nm.c1
      have Hrb := Lib.hid hrb
      have Hb := Lib.hid hb
      clear ha hrb hb hu
      dsimp only
      refine hK.out _ _ (fun _ => Sa.out) ?_
      clear hK K
      try go_frame
      refine anyU_ready (rs := [3]) (by kernel_rfl) (by simp) (AllU.cons (o := ⟨some 27, .buildSlice 56 1 #[(0, .tmp 26)], _, _, _, none⟩) rfl (fun K hK => ?_) (fun h => absurd h (by decide)) AllU.nil)
      rw [if_pos (by rfl)]
      go_simp
      refine hK.out _ _ (fun _ => Sb.out) ?_
      clear hK K
      try go_frame
      refine anyU_ready (rs := [4]) (by kernel_rfl) (by simp) (AllU.cons (o := ⟨some 28, .call { callee := .builtin .append, args := #[.tmp 25, .tmp 27], argTypes := #[56, 56] }, _, _, _, none⟩) rfl (fun K hK => ?_) (fun h => absurd h (by decide)) AllU.nil)
      rw [if_pos (by rfl)]
      refine wp_run (.slice Ana nna cna) wb (exec_append (t := 56) (x := .tmp 25) (y := .tmp 27) rfl rfl rfl Hrb.out) ?_
      refine hK.out _ _ (fun _ => Sc.out) ?_
      clear hK K
      go_frame
      have fzb := Hb.out.nm.fz 1
      have cb := Sc.out
      refine' anyU_take0 (i := 5) (oi := ⟨some 29, .fieldAddr 126 (.tmp 5) 1, _, _, _, none⟩) (v := _) rfl (by kernel_rfl) (fun _ _ _ h => h) (Or.inl ⟨by rfl, ?hy3⟩) (by assumption) ?rest3
      case hy3 => (intro w hSw; go_simp <;> with_reducible rfl)
      case rest3 =>
      go_frame
      refine anyU_ready (rs := [6]) (by kernel_rfl) (by simp) (AllU.cons (o := ⟨none, .store 56 (.tmp 29) (.tmp 28), _, _, _, none⟩) rfl (fun K hK => ?_) (fun _ => by kernel_rfl) AllU.nil)
      rw [if_pos (by rfl)]
      go_simp
      refine hK.out _ _ (fun h => absurd h (by decide)) ?_
      clear hK K
      try go_frame
      refine anyU_done (by kernel_rfl) ?_ _
      go_wp2_with fail
      have hw2 := Hb.out.setK
      obtain ⟨wv, hwv⟩ : ∃ wv, wv = wb.setCell ⟨w.heap.size + 1, 1, none⟩ (.slice Ana nna cna) := ⟨_, rfl⟩
      rw [← hwv] at hw2 ⊢
      have hnk2 := HN2.out wv.drew _ _ _ _ _ _ _ hw2.drew HAt.out
      have hstep := HStep.out
      obtain ⟨xb, hxb⟩ : ∃ x, x = getN b (at_ + 1 + getN b at_ 1) 2 := ⟨_, rfl⟩
      rw [← hxb] at hnk2 hstep
      have HStep2 := Lib.hid hstep
      have HWb := Lib.hid hw2
      have HNb := Lib.hid hnk2
      clear hw2 hnk2 hwv hstep HStep hxb Hb Sa Sb Sc Hrb fzb cb S0
      have S0 : wv.cell? ⟨w.heap.size + 1, 3, none⟩ = some tD := HWb.out.nm.c3
      refine wp_region_late (S := fun w' => w'.cell? ⟨w.heap.size + 1, 3, none⟩ = some tD) [6] (by kernel_rfl) S0 (fun hHeld => ?_)
      refine' anyU_take0 (i := 0) (oi := ⟨some 37, .fieldAddr 126 (.tmp 5) 3, _, _, _, none⟩) (v := _) rfl (by kernel_rfl) (fun _ _ _ h => h) (Or.inl ⟨by rfl, ?hy10⟩) (by assumption) ?rest10
      case hy10 => (intro w hSw; go_simp <;> with_reducible rfl)
      case rest10 =>
      go_frame
      refine' anyU_take (i := 1) (oi := ⟨some 38, .load 54 (.tmp 37), _, _, _, none⟩) (v := _) rfl (by kernel_rfl) (fun _ _ _ h => h) (Or.inl ⟨by rfl, ?hy11⟩) (by assumption) ?rest11
      case hy11 => (intro w hSw; obtain s1 := hSw; go_simp <;> with_reducible rfl)
      case rest11 =>
      go_frame
      refine anyU_ready (rs := [2]) (by kernel_rfl) (by simp) (AllU.cons (o := ⟨some 39, .call { callee := .value (.func 144), args := #[.tmp 6, .const (.int .i64 2)], argTypes := #[223, 3] }, _, _, _, none⟩) rfl (fun K hK => ?_) (fun h => absurd h (by decide)) AllU.nil)
      rw [if_pos (by rfl)]
      go_simp
      refine (HNb.out).mono ?_
      rintro e wa ⟨rfl, ha⟩
      obtain ⟨Anb, nnb, cnb, wb, hrb, hb⟩ := ha.kidded (xb : Int) (by have := HShb.out; omega)
      have Sa := Lib.hid (ha.nm.c3)
      have Sb := Lib.hid ((ha.lit (.cells #[.int .i64 (xb : Int)] 3)).nm.c3)
      have Sc := Lib.hid hb.nm.c3
      have Hrb := Lib.hid hrb
      have Hb := Lib.hid hb
      clear ha hrb hb
      dsimp only
      refine hK.out _ _ (fun _ => Sa.out) ?_
      clear hK K
      try go_frame
      refine anyU_ready (rs := [3]) (by kernel_rfl) (by simp) (AllU.cons (o := ⟨some 40, .buildSlice 54 1 #[(0, .tmp 39)], _, _, _, none⟩) rfl (fun K hK => ?_) (fun h => absurd h (by decide)) AllU.nil)
      rw [if_pos (by rfl)]
      go_simp
      refine hK.out _ _ (fun _ => Sb.out) ?_
      clear hK K
      try go_frame
      refine anyU_ready (rs := [4]) (by kernel_rfl) (by simp) (AllU.cons (o := ⟨some 41, .call { callee := .builtin .append, args := #[.tmp 38, .tmp 40], argTypes := #[54, 54] }, _, _, _, none⟩) rfl (fun K hK => ?_) (fun h => absurd h (by decide)) AllU.nil)
      rw [if_pos (by rfl)]
      refine wp_run (.slice Anb nnb cnb) wb (exec_append (t := 54) (x := .tmp 38) (y := .tmp 40) rfl rfl rfl Hrb.out) ?_
      refine hK.out _ _ (fun _ => Sc.out) ?_
      clear hK K
      go_frame
      have fzb := Hb.out.nm.fz 3
      have cb := Sc.out
      refine' anyU_take0 (i := 5) (oi := ⟨some 42, .fieldAddr 126 (.tmp 5) 3, _, _, _, none⟩) (v := _) rfl (by kernel_rfl) (fun _ _ _ h => h) (Or.inl ⟨by rfl, ?hy12⟩) (by assumption) ?rest12
      case hy12 => (intro w hSw; go_simp <;> with_reducible rfl)
      case rest12 =>
      go_frame
      refine anyU_ready (rs := [6]) (by kernel_rfl) (by simp) (AllU.cons (o := ⟨none, .store 54 (.tmp 42) (.tmp 41), _, _, _, none⟩) rfl (fun K hK => ?_) (fun _ => by kernel_rfl) AllU.nil)
      rw [if_pos (by rfl)]
      go_simp
      refine hK.out _ _ (fun h => absurd h (by decide)) ?_
      clear hK K
      try go_frame
      refine anyU_done (by kernel_rfl) ?_ _
      go_wp2_with fail
      have hw3 := Hb.out.setD
      go_roundw
      case rel =>
        refine ⟨k + 1, .slice Ana nna cna, tV, .slice Anb nnb cnb, by omega, by go_num, Lib.hid ?_⟩
        rw [HStep2.out]
        exact hw3
      case measure => simp [intOf]; omega
    · have : k = n := by omega
      subst this
      have hw := HI.out
      obtain ⟨A1, n1, c1, A2, n2, c2, A3, n3, c3, rfl, rfl, rfl⟩ := hw.nm.is.slices
      obtain ⟨x0, x1, x2, x3⟩ := hw.nm.box
      obtain ⟨y0, y1, y2, y3, f0, f1, f2, f3⟩ := out_cells hw.out
      obtain ⟨W, hW⟩ : ∃ W, W = store4 wr w.heap.size false (.slice A1 n1 c1) (.slice A2 n2 c2) (.slice A3 n3 c3) := ⟨_, rfl⟩
      have hbx := box_of_top (store4_top (lf := false) (K := .slice A1 n1 c1) (V := .slice A2 n2 c2) (D := .slice A3 n3 c3) hw.out)
      have hfi := (hw.nm.new rfl).store4 (lf := false) (K := .slice A1 n1 c1) (V := .slice A2 n2 c2) (D := .slice A3 n3 c3) (N := w.heap.size) (by omega)
      have hfb := hw.below.trans (store4_below (w := wr) (lf := false) (K := .slice A1 n1 c1) (V := .slice A2 n2 c2) (D := .slice A3 n3 c3) (Nat.le_refl w.heap.size))
      rw [← hW] at hbx hfi hfb
      obtain ⟨q0, q1, q2, q3⟩ := hbx
      have HFi := Lib.hid hfi
      have HFb := Lib.hid hfb
      have HWW := Lib.hid hW
      clear hw HI hfi hfb hW
      go_wp2_with fail
      have hW := HWW.out
      unfold store4 at hW
      rw [← hW]
      refine bodyPost_ret (v := ndVal false (.slice A1 n1 c1) (.slice A2 n2 c2) (.slice A3 n3 c3)) (by simp [results, Tryz.results117, go_sem, q0, q1, q2, q3]) rfl ⟨_, _, _, rfl, ?_, HFb.out⟩
      have hx := HFi.out
      have e := rdAt_leaf false b k
      obtain ⟨rd, hrd⟩ : ∃ r, r = (rdAt false b k).1 := ⟨_, rfl⟩
      rw [← hrd] at e hx ⊢
      obtain ⟨l1, l2, l3, l4⟩ := rd
      dsimp only at e hx
      subst e
      exact (NdNew.mk hx.keys hx.vals hx.kids).weaken (by omega)
end Go.Proofs.YtnmokkkbghlpbaaGreat
/-
  What is read of a node's bytes is that node; Decode of package node, by contract.
-/
namespace Go.Proofs.YtnmokkkbghlpbaaGreat
open Go.RowKit
theorem getN_at (pre rest : List UInt8) (s x : Nat) (hx : x < 256 ^ s) : getN (pre ++ (be s x ++ rest)) pre.length s = x := by
  unfold getN
  rw [if_pos (by simp [be_length])]
  have e : ((pre ++ (be s x ++ rest)).drop pre.length).take s = be s x := by
    rw [List.drop_left, List.take_append_of_le_length (by rw [be_length]; exact Nat.le_refl _), List.take_of_length_le (by rw [be_length]; exact Nat.le_refl _)]
  rw [e]
  have h := ofBe_be s x 0
  rw [Nat.mod_eq_of_lt hx] at h
  simpa using h
theorem cutT_at (pre t rest : List UInt8) : cutT (pre ++ (t ++ rest)) pre.length t.length = t := by
  unfold cutT
  rw [if_pos (by simp), List.drop_left, List.take_left]
theorem Nd.parts_pre (n : Nd) (k : Nat) : ∀ j, ∃ rest, (n.parts (k + j)).flatten = (n.parts k).flatten ++ rest
  | 0 => ⟨[], by simp⟩
  | j + 1 => by
    obtain ⟨rest, h⟩ := n.parts_pre k j
    refine ⟨rest ++ (n.cellParts (k + j)).flatten, ?_⟩
    rw [← Nat.add_assoc, Nd.parts, List.flatten_append, h, List.append_assoc]
theorem Nd.bytes_pre (n : Nd) {k : Nat} (h : k ≤ n.keys.length) : ∃ rest, n.bytes = (n.parts k).flatten ++ rest := by
  obtain ⟨rest, e⟩ := n.parts_pre k (n.keys.length - k)
  rw [Nat.add_sub_of_le h] at e
  exact ⟨rest, e⟩
theorem Nd.rdAt_leaf {n : Nd} (hs : n.Snd) (hl : n.leaf = true) : ∀ k, k ≤ n.keys.length → rdAt true n.bytes k = (⟨true, n.keys.take k, n.vals.take k, []⟩, (n.parts k).flatten.length)
  | 0, _ => by
    simp [rdAt, Nd.parts, Nd.head, hl, be_length]
  | k + 1, hk => by
    obtain ⟨rest, he⟩ := n.bytes_pre hk
    have hP : (n.parts (k + 1)).flatten = (n.parts k).flatten ++ (be 1 (n.keys.getD k []).length ++ (n.keys.getD k [] ++ (be 1 (n.vals.getD k []).length ++ n.vals.getD k []))) := by
      rw [Nd.parts_leaf hl]; simp
    have hkl := (hs.keys k (by omega)).1.2
    have hvl := hs.vals k (by rw [(hs.ofLeaf hl).2]; omega)
    have hv1 := (hs.ofLeaf hl).2
    rw [rdAt, Nd.rdAt_leaf hs hl k (by omega)]
    obtain ⟨P, hPP⟩ : ∃ P, P = (n.parts k).flatten := ⟨_, rfl⟩
    obtain ⟨key, hkey⟩ : ∃ x, x = n.keys.getD k [] := ⟨_, rfl⟩
    obtain ⟨val, hval⟩ : ∃ x, x = n.vals.getD k [] := ⟨_, rfl⟩
    rw [hP] at he
    rw [hP, ← take_more n.keys [] (by omega), ← take_more n.vals [] (by omega)]
    rw [← hPP, ← hkey, ← hval] at he
    rw [← hPP, ← hkey, ← hval]
    rw [← hkey] at hkl
    rw [← hval] at hvl
    have g1 : getN n.bytes P.length 1 = key.length := by
      rw [he]
      have := getN_at P (key ++ (be 1 val.length ++ val) ++ rest) 1 key.length (by omega)
      simpa using this
    have g2 : cutT n.bytes (P.length + 1) key.length = key := by
      rw [he]
      have := cutT_at (P ++ be 1 key.length) key (be 1 val.length ++ val ++ rest)
      simpa [be_length] using this
    have g3 : getN n.bytes (P.length + 1 + key.length) 1 = val.length := by
      rw [he]
      have := getN_at (P ++ be 1 key.length ++ key) (val ++ rest) 1 val.length (by omega)
      simpa [be_length, Nat.add_assoc] using this
    have g4 : cutT n.bytes (P.length + 1 + key.length + 1) val.length = val := by
      rw [he]
      have := cutT_at (P ++ be 1 key.length ++ key ++ be 1 val.length) val rest
      simpa [be_length, Nat.add_assoc] using this
    rw [if_pos rfl]
    dsimp only
    rw [g1, g2, g3, g4]
    simp [be_length]
    omega
theorem Nd.rdAt_not {n : Nd} (hs : n.Snd) (hl : n.leaf = false) : ∀ k, k ≤ n.keys.length → rdAt false n.bytes k = (⟨false, n.keys.take k, [], n.kids.take (k + 1)⟩, (n.parts k).flatten.length)
  | 0, _ => by
    obtain ⟨rest, he⟩ := n.bytes_pre (k := 0) (Nat.zero_le _)
    have h0 := hs.kids 0 (by rw [(hs.ofNot hl).2.2]; omega)
    have hP : (n.parts 0).flatten = be 1 n.keys.length ++ be 2 (n.kids.getD 0 0).toNat := by simp [Nd.parts, Nd.head, hl]
    have ht := take_more n.kids 0 (k := 0) (by rw [(hs.ofNot hl).2.2]; omega)
    have hb := h0.1
    have hb2 := h0.2
    rw [hP] at he ⊢
    obtain ⟨x, hx⟩ : ∃ x, x = n.kids.getD 0 0 := ⟨_, rfl⟩
    rw [← hx] at he hb hb2 ht ⊢
    have g1 : getN n.bytes 1 2 = x.toNat := by
      rw [he]
      have := getN_at (be 1 n.keys.length) rest 2 x.toNat (by omega)
      simpa [be_length] using this
    rw [← ht]
    have e : ((x.toNat : Nat) : Int) = x := by omega
    simp [rdAt, g1, be_length, e]
  | k + 1, hk => by
    obtain ⟨rest, he⟩ := n.bytes_pre hk
    have hP : (n.parts (k + 1)).flatten = (n.parts k).flatten ++ (be 1 (n.keys.getD k []).length ++ (n.keys.getD k [] ++ be 2 (n.kids.getD (k + 1) 0).toNat)) := by
      rw [Nd.parts_not hl]; simp
    have hkl := (hs.keys k (by omega)).1.2
    have h0 := hs.kids (k + 1) (by rw [(hs.ofNot hl).2.2]; omega)
    have hd1 := (hs.ofNot hl).2.2
    have hb := h0.1
    have hb2 := h0.2
    rw [rdAt, Nd.rdAt_not hs hl k (by omega)]
    obtain ⟨P, hPP⟩ : ∃ P, P = (n.parts k).flatten := ⟨_, rfl⟩
    obtain ⟨key, hkey⟩ : ∃ x, x = n.keys.getD k [] := ⟨_, rfl⟩
    obtain ⟨x, hx⟩ : ∃ x, x = n.kids.getD (k + 1) 0 := ⟨_, rfl⟩
    rw [hP] at he
    rw [hP, ← take_more n.keys [] (by omega), ← take_more n.kids 0 (k := k + 1) (by omega)]
    rw [← hPP, ← hkey, ← hx] at he
    rw [← hPP, ← hkey, ← hx]
    rw [← hkey] at hkl
    rw [← hx] at hb hb2
    have g1 : getN n.bytes P.length 1 = key.length := by
      rw [he]
      have := getN_at P (key ++ be 2 x.toNat ++ rest) 1 key.length (by omega)
      simpa using this
    have g2 : cutT n.bytes (P.length + 1) key.length = key := by
      rw [he]
      have := cutT_at (P ++ be 1 key.length) key (be 2 x.toNat ++ rest)
      simpa [be_length] using this
    have g3 : getN n.bytes (P.length + 1 + key.length) 2 = x.toNat := by
      rw [he]
      have := getN_at (P ++ be 1 key.length ++ key) rest 2 x.toNat (by omega)
      simpa [be_length, Nat.add_assoc] using this
    rw [if_neg (by decide)]
    dsimp only
    rw [g1, g2, g3]
    have e : ((x.toNat : Nat) : Int) = x := by omega
    simp [be_length, e]
    omega
/-- A node that may be written. -/
structure Nd.Fit (n : Nd) : Prop where
  snd : n.Snd
  few : n.keys.length ≤ 255
  fit : n.size ≤ 232
theorem Nd.count_read {n : Nd} (h : n.keys.length ≤ 255) : getN n.bytes 0 1 = n.keys.length := by
  obtain ⟨rest, he⟩ := n.bytes_pre (k := 0) (Nat.zero_le _)
  rw [he]
  have := getN_at [] ((if n.leaf then [] else [be 2 (n.kids.getD 0 0).toNat]).flatten ++ rest) 1 n.keys.length (by omega)
  simpa [Nd.parts, Nd.head] using this
theorem Nd.ext' {a b : Nd} (h1 : a.leaf = b.leaf) (h2 : a.keys = b.keys) (h3 : a.vals = b.vals) (h4 : a.kids = b.kids) : a = b := by
  cases a; cases b; simp at *; exact ⟨h1, h2, h3, h4⟩
/-- What is read of a node's bytes is that node. -/
theorem Nd.read_back {n : Nd} (h : n.Fit) : (rdAt n.leaf n.bytes (getN n.bytes 0 1)).1 = n := by
  rw [n.count_read h.few]
  cases hl : n.leaf
  · rw [Nd.rdAt_not h.snd hl _ (Nat.le_refl _)]
    have h1 := h.snd.ofNot hl
    refine Nd.ext' hl.symm (List.take_length ..) (List.eq_nil_of_length_eq_zero h1.1).symm ?_
    show n.kids.take (n.keys.length + 1) = n.kids
    rw [← h1.2.2]; exact List.take_length ..
  · rw [Nd.rdAt_leaf h.snd hl _ (Nat.le_refl _)]
    have h1 := h.snd.ofLeaf hl
    refine Nd.ext' hl.symm (List.take_length ..) ?_ (List.eq_nil_of_length_eq_zero h1.1).symm
    show n.vals.take n.keys.length = n.vals
    rw [← h1.2]; exact List.take_length ..
end Go.Proofs.YtnmokkkbghlpbaaGreat
/-
  Decode of package node, by contract.
-/
namespace Go.Proofs.YtnmokkkbghlpbaaGreat
open Go.RowKit
theorem read_any (lf : Bool) (A : Option Addr) (c : Nat) (b : List UInt8) (w : World) (hr : Rd w w.heap.size (.slice A b.length c) (cellsB b)) (hl : b.length ≤ 100000000) :
    Calls Tryz.prog 117 #[.bool lf, .slice A b.length c] w fun e w' => ∃ K V D, e = .returned (ndVal lf K V D) ∧ NdNew w' w.heap.size K V D (rdAt lf b (getN b 0 1)).1 ∧ Below w.heap.size w w' := by
  cases lf
  · exact read_not A c b w hr hl
  · exact read_leaf A c b w hr hl
theorem encode_good {n : Nd} {K V D : Value} {w : World} {B : Nat} (hr : NdIs w B K V D n) (hB : B ≤ w.heap.size) (hsh : n.Short 1000000) (h : n.Fit) :
    Calls Tryz.prog 118 #[ndVal n.leaf K V D] w fun e w' => ∃ v, e = .returned (.tuple #[v, .int .i64 0]) ∧ Mine w' w.heap.size 5 v (cellsB n.bytes) ∧ Below w.heap.size w w' := by
  cases hl : n.leaf
  · exact encode_not hr hB hsh h.snd hl h.few h.fit
  · exact encode_leaf hr hB hsh h.snd hl h.few h.fit
theorem encode_bad {n : Nd} {K V D : Value} {w : World} {B : Nat} (hr : NdIs w B K V D n) (hB : B ≤ w.heap.size) (hsh : n.Short 1000000) (h : ¬ n.Fit) :
    ∃ x : Int, (x = 4 ∨ x = 10) ∧ Calls Tryz.prog 118 #[ndVal n.leaf K V D] w fun e w' => e = .returned (.tuple #[.slice none 0 0, .int .i64 x]) ∧ Below w.heap.size w w' := by
  by_cases h1 : n.Snd ∧ n.keys.length ≤ 255
  · refine ⟨10, .inr rfl, encode_long hr hB hsh h1.1 h1.2 ?_⟩
    rcases Nat.lt_or_ge 232 n.size with h2 | h2
    · exact h2
    · exact absurd ⟨h1.1, h1.2, h2⟩ h
  · refine ⟨4, .inl rfl, encode_form hr hB hsh ?_⟩
    by_cases h2 : n.Snd
    · exact .inr (by rcases Nat.lt_or_ge 255 n.keys.length with h3 | h3; exact h3; exact absurd ⟨h2, h3⟩ h1)
    · exact .inl h2
set_option maxRecDepth 100000 in
theorem beq_any {a b : Value} {l m : List UInt8} {w : World} {B C : Nat} (h1 : Rd w B a (cellsB l)) (h2 : Rd w C b (cellsB m)) :
    Calls Tryz.prog 119 #[a, b] w fun e w' => e = .returned (.bool (decide (l = m))) ∧ w = w' := by
  have s1 := run_string_rd (P := Tryz.prog) 31 9 5 Tryz.underlying31 Tryz.underlying5 Tryz.underlying9 h1
  have s2 := run_string_rd (P := Tryz.prog) 31 9 5 Tryz.underlying31 Tryz.underlying5 Tryz.underlying9 h2
  go_enter Tryz.func119, Tryz.ntmps119
  go_wp2_with fail
  go_ret
  refine ⟨?_, rfl⟩
  show Ending.returned (.bool (l == m)) = _
  congr 2
  rw [Bool.eq_iff_iff]
  simp
theorem short_rd (lf : Bool) (b : List UInt8) : (rdAt lf b (getN b 0 1)).1.Short 1000000 := by
  have h := rdAt_len lf b (getN b 0 1)
  have g := getN_byte b 0
  exact ⟨by omega, by omega, by omega⟩
/-- The zero node. -/
abbrev ndZero : Value := ndVal false (.slice none 0 0) (.slice none 0 0) (.slice none 0 0)
set_option maxRecDepth 100000 in
set_option maxHeartbeats 1600000 in
theorem decode_good (A : Option Addr) (c : Nat) (w : World) {n : Nd} (hf : n.Fit) (hr : Rd w w.heap.size (.slice A n.bytes.length c) (cellsB n.bytes)) :
    Calls Tryz.prog 87 #[.bool n.leaf, .slice A n.bytes.length c] w fun e w' => ∃ K V D, e = .returned (.tuple #[ndVal n.leaf K V D, .int .i64 0]) ∧ NdNew w' (w.heap.size + 1) K V D n ∧ Below w.heap.size w w' := by
  have hbl : n.bytes.length ≤ 232 := by rw [n.bytes_len]; exact hf.fit
  have hread := fun (W : World) (hW : Below w.heap.size w W) => read_any n.leaf A c n.bytes W ((hr.below hW).more hW.size) (by omega)
  rw [n.read_back hf] at hread
  have hsh : n.Short 1000000 := by have := short_rd n.leaf n.bytes; rwa [n.read_back hf] at this
  have henc := fun (W : World) (K V D : Value) (hW : NdIs W W.heap.size K V D n) => encode_good hW (Nat.le_refl _) hsh hf
  have heq := fun (W : World) (v : Value) (hW : Below w.heap.size w W) (hv : Rd W W.heap.size v (cellsB n.bytes)) => beq_any hv (hr.below hW)
  have hout := heap_alloc_last w (.cells #[.bool false, .slice none 0 0, .slice none 0 0, .slice none 0 0] 126)
  have hb0 : Below w.heap.size w (w.alloc (.cells #[.bool false, .slice none 0 0, .slice none 0 0, .slice none 0 0] 126)) := (Below.refl _ _).alloc (Nat.le_refl _) _
  have hsz : (w.alloc (.cells #[.bool false, .slice none 0 0, .slice none 0 0, .slice none 0 0] 126)).heap.size = w.heap.size + 1 := by simp
  have hrd := hread _ hb0
  rw [decide_eq_true (rfl : n.bytes = n.bytes)] at heq
  obtain ⟨lf, hlf⟩ : ∃ x, x = n.leaf := ⟨_, rfl⟩
  obtain ⟨nb, hnb⟩ : ∃ x, x = n.bytes.length := ⟨_, rfl⟩
  rw [← hlf] at hrd henc ⊢
  rw [← hnb] at hrd heq ⊢
  have HR := Lib.hid hrd
  have HE := Lib.hid henc
  have HQ := Lib.hid heq
  have HO := Lib.hid hout
  have H0 := Lib.hid hb0
  have HS := Lib.hid hsz
  clear hr hbl hread hsh henc heq hout hb0 hsz hrd hnb hlf
  go_enter Tryz.func87, Tryz.ntmps87
  go_wp2_with fail
  refine HR.out.mono ?_
  rintro e w1 ⟨K, V, D, rfl, hn1, hb1⟩
  have hn1 : NdNew w1 (w.heap.size + 1) K V D n := by rw [HS.out] at hn1; exact hn1
  obtain ⟨A1, n1, c1, A2, n2, c2, A3, n3, c3, rfl, rfl, rfl⟩ := hn1.is.slices
  have hn2 := hn1.kept ((Below.refl _ _).alloc (Nat.le_refl _) (.cells #[.bool lf, .slice A1 n1 c1, .slice A2 n2 c2, .slice A3 n3 c3] 126))
  have hb2 := up_alloc (up H0.out (hb1.mono (Nat.le_refl _))) (.cells #[.bool lf, .slice A1 n1 c1, .slice A2 n2 c2, .slice A3 n3 c3] 126)
  have hbx := NdBox.made w1 lf (.slice A1 n1 c1) (.slice A2 n2 c2) (.slice A3 n3 c3)
  have hs1 : w.heap.size < w1.heap.size := by have := hb1.size; rw [HS.out] at this; omega
  have ho2 := (heap_alloc_old w1 (.cells #[.bool lf, .slice A1 n1 c1, .slice A2 n2 c2, .slice A3 n3 c3] 126) hs1).trans ((hb1.block w.heap.size (by rw [HS.out]; omega)).trans HO.out)
  have henc := HE.out _ _ _ _ hn2.is
  have HN2 := Lib.hid hn2
  have HB2 := Lib.hid hb2
  have HX2 := Lib.hid hbx
  have HO2 := Lib.hid ho2
  have HS1 := Lib.hid hs1
  obtain ⟨x0, x1, x2, x3⟩ := hbx
  clear hn1 hb1 hn2 hb2 ho2 hs1
  go_wp2_with fail
  refine henc.mono ?_
  rintro e w3 ⟨v, rfl, hown, hb3⟩
  have HN3 := Lib.hid (HN2.out.kept hb3)
  have HB3 := Lib.hid (up HB2.out hb3)
  have HX3 := Lib.hid (HX2.out.later (by simp) hb3)
  have HO3 := Lib.hid ((hb3.block w.heap.size (by have := HS1.out; simp; omega)).trans HO2.out)
  have heq := HQ.out w3 v HB3.out hown.rd
  clear x0 x1 x2 x3 henc hown hb3
  obtain ⟨x0, x1, x2, x3⟩ := HX3.out
  obtain ⟨y0, y1, y2, y3, f0, f1, f2, f3⟩ := out_cells HO3.out
  obtain ⟨W, hW⟩ : ∃ W, W = store4 w3 w.heap.size lf (.slice A1 n1 c1) (.slice A2 n2 c2) (.slice A3 n3 c3) := ⟨_, rfl⟩
  have hbox := box_of_top (store4_top (lf := lf) (K := .slice A1 n1 c1) (V := .slice A2 n2 c2) (D := .slice A3 n3 c3) HO3.out)
  have hfi := HN3.out.store4 (lf := lf) (K := .slice A1 n1 c1) (V := .slice A2 n2 c2) (D := .slice A3 n3 c3) (N := w.heap.size) (by omega)
  have hfb := HB3.out.trans (store4_below (w := w3) (lf := lf) (K := .slice A1 n1 c1) (V := .slice A2 n2 c2) (D := .slice A3 n3 c3) (Nat.le_refl w.heap.size))
  rw [← hW] at hbox hfi hfb
  obtain ⟨q0, q1, q2, q3⟩ := hbox
  have HFi := Lib.hid hfi
  have HFb := Lib.hid hfb
  have HWW := Lib.hid hW
  clear hfi hfb hW
  go_wp2_with (go_at_call 119; refine heq.mono ?_; rintro e w4 ⟨rfl, rfl⟩)
  have hW := HWW.out
  unfold store4 at hW
  rw [← hW]
  exact bodyPost_ret (v := .tuple #[ndVal lf (.slice A1 n1 c1) (.slice A2 n2 c2) (.slice A3 n3 c3), .int .i64 0]) (by simp [results, Tryz.results87, go_sem, q0, q1, q2, q3]) rfl ⟨_, _, _, rfl, HFi.out, HFb.out⟩
end Go.Proofs.YtnmokkkbghlpbaaGreat
/-
  A tree over a cache, a device and a space, all in one memory; a page read.
-/
namespace Go.Proofs.YtnmokkkbghlpbaaGreat
open Go.RowKit
/-- What is a device's, but for the blocks from a on, below b. -/
def Nout (N : Nat → Prop) (a b : Nat) : Nat → Prop := fun k => N k ∧ ¬ (a ≤ k ∧ k < b)
/-- In w there is a tree t over the cache x, the device d (in blocks of N), the space sp. -/
structure TS (w : World) (N : Nat → Prop) (c bf p s t : Nat) (x : Cch) (d : Dev) (sp : Spc) (gen root height : Nat) : Prop where
  cd : CD w N c bf p x d
  sp : SpcIs w s sp
  tr : TrIs w t c s gen root height
  ns : ¬ Foot N c bf s
  nt : ¬ Foot N c bf t
  st : s ≠ t
  ok : x.Ok d.L.length
section
variable {w w' : World} {N N' : Nat → Prop} {c bf p s t : Nat} {x x' : Cch} {d d' : Dev} {sp sp' : Spc} {gen root height : Nat} {a b : Nat}
theorem Nout.less {k : Nat} (h : Nout N a b k) : N k := h.1
theorem Foot.less {k : Nat} (h : Foot (Nout N a b) c bf k) : Foot N c bf k := h.elim (fun e => .inl e.1) .inr
theorem Only.less (h : Only (Foot (Nout N a b) c bf) w w') : Only (Foot N c bf) w w' := h.mono fun _ _ hk => Foot.less hk
theorem TS.lt (h : TS w N c bf p s t x d sp gen root height) : c < w.heap.size ∧ bf < w.heap.size ∧ s < w.heap.size ∧ t < w.heap.size := ⟨h.cd.lt.1, h.cd.lt.2, h.sp.lt, h.tr.lt⟩
/-- New blocks above all: they are none of the device's. -/
theorem TS.own (h : TS w N c bf p s t x d sp gen root height) (hb : Below w.heap.size w w') : TS w' (Nout N w.heap.size b) c bf p s t x d sp gen root height := by
  have hl := h.lt
  refine ⟨(h.cd.mono (fun k hk hg => ⟨hg, by omega⟩) (fun e => h.cd.nc.1 e.1) (fun e => h.cd.nc.2 e.1)).below hb, h.sp.below hb, h.tr.below hb, fun e => h.ns (Foot.less e), fun e => h.nt (Foot.less e), h.st, h.ok⟩
theorem TS.below (h : TS w N c bf p s t x d sp gen root height) (hb : Below w.heap.size w w') : TS w' N c bf p s t x d sp gen root height :=
  ⟨h.cd.below hb, h.sp.below hb, h.tr.below hb, h.ns, h.nt, h.st, h.ok⟩
/-- They may be the device's again. -/
theorem TS.back (h : TS w' (Nout N a b) c bf p s t x' d' sp' gen root height) (h0 : TS w N c bf p s t x d sp gen root height) : TS w' N c bf p s t x' d' sp' gen root height :=
  ⟨h.cd.mono (fun _ _ hg => hg.1) h0.cd.nc.1 h0.cd.nc.2, h.sp, h.tr, h0.ns, h0.nt, h.st, h.ok⟩
/-- The cache has turned. -/
theorem TS.cached (h : TS w N c bf p s t x d sp gen root height) (hc : CD w' N c bf p x' d') (ho : Only (Foot N c bf) w w') (hok : x'.Ok d'.L.length) : TS w' N c bf p s t x' d' sp gen root height :=
  ⟨hc, h.sp.only ho h.ns, h.tr.only ho h.nt, h.ns, h.nt, h.st, hok⟩
theorem Only.late {F : Nat → Prop} {w2 : World} (h : Only F w w') (hb : Below w.heap.size w' w2) : Only F w w2 :=
  ⟨hb.os.trans h.os, hb.tape.trans h.tape, hb.output.trans h.output, Nat.le_trans h.size hb.size, fun k hk hn => (hb.block k hk).trans (h.block k hk hn)⟩
/-- A block that is none of theirs has turned. -/
theorem CD.other (h : CD w N c bf p x d) {F : Nat → Prop} (ho : Only F w w') (hr : ∀ k, k < w.heap.size → F k → ¬ Foot N c bf k) : CD w' N c bf p x d := by
  obtain ⟨bl, bm, S, D, hd⟩ := h.dev
  have hl := h.lt
  refine ⟨h.cache.only (F := fun k => F k ∧ k < w.heap.size) (ho.mono fun k hk hf => ⟨hf, hk⟩) (fun e => hr c hl.1 e.1 (.inr (.inl rfl))) (fun e => hr bf hl.2 e.1 (.inr (.inr rfl))), ⟨bl, bm, S, D, hd.keep fun k hk hg => ho.block k hk fun e => hr k hk e (.inl hg)⟩, h.nc⟩
theorem TS.other (h : TS w N c bf p s t x d sp gen root height) {F : Nat → Prop} (ho : Only F w w') (hr : ∀ k, k < w.heap.size → F k → ¬ Foot N c bf k ∧ k ≠ s ∧ k ≠ t) : TS w' N c bf p s t x d sp gen root height :=
  have hl := h.lt
  ⟨h.cd.other ho fun k hk hf => (hr k hk hf).1, h.sp.keep (ho.block s hl.2.2.1 fun e => (hr s hl.2.2.1 e).2.1 rfl), h.tr.keep (ho.block t hl.2.2.2 fun e => (hr t hl.2.2.2 e).2.2 rfl), h.ns, h.nt, h.st, h.ok⟩
/-- Another set of blocks for the device. -/
theorem TS.sets (h : TS w N c bf p s t x d sp gen root height) (h1 : ∀ k, k < w.heap.size → N k → N' k) (h2 : ¬ N' c ∧ ¬ N' bf ∧ ¬ N' s ∧ ¬ N' t) : TS w N' c bf p s t x d sp gen root height :=
  ⟨h.cd.mono h1 h2.1 h2.2.1, h.sp, h.tr, fun e => e.elim h2.2.2.1 fun e => h.ns (.inr e), fun e => e.elim h2.2.2.2 fun e => h.nt (.inr e), h.st, h.ok⟩
theorem TS.nots (h : TS w N c bf p s t x d sp gen root height) : ¬ N c ∧ ¬ N bf ∧ ¬ N s ∧ ¬ N t := ⟨h.cd.nc.1, h.cd.nc.2, fun e => h.ns (.inl e), fun e => h.nt (.inl e)⟩
theorem store4_only {r : Nat} {lf : Bool} {K V D : Value} : Only (fun k => k = r) w (store4 w r lf K V D) := by
  unfold store4
  exact (((Only.setCell (F := fun k => k = r) (p := ⟨r, 0, none⟩) rfl _).trans (Only.setCell (F := fun k => k = r) (p := ⟨r, 1, none⟩) rfl _)).trans (Only.setCell (F := fun k => k = r) (p := ⟨r, 2, none⟩) rfl _)).trans (Only.setCell (F := fun k => k = r) (p := ⟨r, 3, none⟩) rfl _)
set_option maxRecDepth 100000 in
set_option maxHeartbeats 1600000 in
/-- A page read in which there is a node. -/
theorem trRead_ok (h : TS w N c bf p s t x d sp gen root height) (hN : ∀ k, w.heap.size ≤ k → N k) (hd : d.n < 999999) {no hgt g : Nat} {n : Nd} (hno : no ≤ 1599)
    (hx : (x.get d no).1 = pgBytes (kindOf n.leaf) no g n.bytes) (he : (x.get d no).2.1 = 0) (hf : n.Fit) (hl : n.leaf = decide (hgt = 1)) (hg : g ≤ gen) (hg2 : gen < 18446744073709551616) :
    Calls Tryz.prog 59 #[at0 t, .int .i64 (no : Int), .int .i64 (hgt : Int)] w fun e w' => ∃ K V D m, e = .returned (.tuple #[ndVal n.leaf K V D, .int .i64 0]) ∧ w.heap.size ≤ m ∧ m ≤ w'.heap.size ∧ NdNew w' m K V D n ∧
      TS w' (Nout N m w'.heap.size) c bf p s t (x.get d no).2.2.1 (x.get d no).2.2.2 sp gen root height ∧ Only (Foot N c bf) w w' := by
  obtain ⟨w1, hw1⟩ : ∃ x, x = w.alloc (.cells #[.bool false, .slice none 0 0, .slice none 0 0, .slice none 0 0] 126) := ⟨_, rfl⟩
  have hb1 : Below w.heap.size w w1 := by rw [hw1]; exact (Below.refl _ _).alloc (Nat.le_refl _) _
  have hs1 : w1.heap.size = w.heap.size + 1 := by rw [hw1]; simp
  have ho1 : w1.heap[w.heap.size]? = some (.cells #[.bool false, .slice none 0 0, .slice none 0 0, .slice none 0 0] 126 (0, 0)) := by rw [hw1]; exact heap_alloc_last _ _
  have h1 : TS w1 (Nout N w.heap.size (w.heap.size + 1)) c bf p s t x d sp gen root height := h.own hb1
  have hget := get_any h1.cd h1.ok.within hd (fun k hk => ⟨hN k (by omega), by omega⟩) (no : Int)
  rw [hx, he] at hget
  have hbl : n.bytes.length ≤ 232 := by rw [n.bytes_len]; exact hf.fit
  obtain ⟨l, hlb⟩ : ∃ l, l = pgBytes (kindOf n.leaf) no g n.bytes := ⟨_, rfl⟩
  have hk1 : 1 ≤ kindOf n.leaf ∧ kindOf n.leaf ≤ 4 := by unfold kindOf; split <;> omega
  have hdec := fun (A : Option Addr) (cc : Nat) (W : World) (hr : Rd W W.heap.size (.slice A l.length cc) (cellsB l)) => pgDec_enc (kindOf n.leaf) no g n.bytes l hlb hbl hk1.1 hk1.2 hno (by omega) A cc W _ hr (Nat.le_refl _)
  have hnd := fun (A : Option Addr) (cc : Nat) (W : World) => decode_good A cc W hf
  have hrl : Rd w w.heap.size (.slice none 0 0) [] := Rd.nil _ _
  have HOK := Lib.hid (h1.ok.get (no : Int))
  rw [← hlb] at hget
  have k0 := h1.tr.c0
  have H := Lib.hid h
  have H1 := Lib.hid h1
  have HB1 := Lib.hid hb1
  have HO1 := Lib.hid ho1
  have HS1 := Lib.hid hs1
  have HG := Lib.hid hget
  have HD := Lib.hid hdec
  have HND := Lib.hid hnd
  obtain ⟨x2, hx2⟩ : ∃ y, y = (x.get d (no : Int)).2.2.1 := ⟨_, rfl⟩
  obtain ⟨d2, hd2⟩ : ∃ y, y = (x.get d (no : Int)).2.2.2 := ⟨_, rfl⟩
  rw [← hx2, ← hd2] at HG HOK
  rw [← hx2, ← hd2]
  rw [hw1] at HG k0
  obtain ⟨lf, hlf⟩ : ∃ y, y = n.leaf := ⟨_, rfl⟩
  rw [← hlf] at HD HND hl ⊢
  obtain ⟨lb, hlbn⟩ : ∃ y, y = n.bytes.length := ⟨_, rfl⟩
  rw [← hlbn] at HD HND
  obtain ⟨ll, hll⟩ : ∃ y, y = l.length := ⟨_, rfl⟩
  rw [← hll] at HD
  have HLL := Lib.hid hll
  have HL := Lib.hid hl
  have HW1 := Lib.hid hw1
  have HGE := Lib.hid hg
  clear hget hdec hnd h1 hb1 hs1 ho1 hx he hf hbl hk1 hlb hrl h hN hd hno hg2 hx2 hd2 hlf hlbn hll hl hw1 hg
  go_enter Tryz.func59, Tryz.ntmps59
  go_wp2_with fail
  refine HG.out.mono ?_
  rintro e w2 ⟨v, rfl, hv, hown, hcd, hon⟩
  rw [← HW1.out] at hon
  obtain ⟨A, cc, rfl, _, _, hv'⟩ := hv.bytes
  rw [← HLL.out] at hv' ⊢
  have hts : TS w2 (Nout N w.heap.size (w.heap.size + 1)) c bf p s t x2 d2 sp gen root height :=
    H1.out.cached (hcd.mono (G' := Nout N w.heap.size (w.heap.size + 1)) (fun _ _ hk => hk.1) H1.out.cd.nc.1 H1.out.cd.nc.2) hon (by
      have := HOK.out.1
      rw [HOK.out.2.2.2.2.2.1]
      exact this)
  have HTS := Lib.hid hts
  have HON := Lib.hid (((Only.of_below HB1.out).trans hon.less : Only (Foot N c bf) w w2))
  have HO2 := Lib.hid ((hon.block w.heap.size (by have := HS1.out; omega) (by
    intro e
    have := H.out.lt
    rcases e with e | e | e
    · exact e.2 ⟨Nat.le_refl _, Nat.lt_succ_self _⟩
    · omega
    · omega)).trans HO1.out)
  have HS2 := Lib.hid (show w.heap.size < w2.heap.size by have := hon.size; have := HS1.out; omega)
  have hdec := HD.out A cc w2 hv'
  have c2 := hts.tr.c2
  clear hv hown hcd hon hv' hts k0
  go_wp2_with fail
  refine hdec.mono ?_
  rintro e w3 ⟨A3, c3, rfl, hr3, hb3⟩
  obtain ⟨w4, hw4⟩ : ∃ y, y = w3.alloc (.cells #[.int .i64 (kindOf lf : Int), .int .u64 (g : Int), .slice A3 lb c3] 166) := ⟨_, rfl⟩
  have hb4 : Below w2.heap.size w2 w4 := by rw [hw4]; exact up_alloc hb3 _
  have hs4 : w2.heap.size ≤ w4.heap.size := hb4.size
  have hr4 : Rd w4 w4.heap.size (.slice A3 lb c3) (cellsB n.bytes) := by rw [hw4]; exact (hr3.alloc (Nat.le_refl _) _).more (by simp)
  have HTS4 := Lib.hid (HTS.out.own (b := w4.heap.size) hb4)
  have c2' := (HTS.out.below hb4).tr.c2
  have HO4 := Lib.hid ((hb4.block w.heap.size HS2.out).trans HO2.out)
  obtain ⟨p0, p1, p2⟩ := pgBox_cells w3 (kindOf lf) g (.slice A3 lb c3)
  have hlf : ((hgt : Int) == 1) = lf := by
    rw [HL.out]
    by_cases e : hgt = 1
    · simp [e]
    · simp [e]; omega
  have hgg : ¬ (gen : Int) < (g : Int) := by have := HGE.out; omega
  have hnd := HND.out A3 c3 w4.drew hr4
  have HB4 := Lib.hid hb4
  have HSZ := Lib.hid hs4
  rw [hw4] at hnd c2'
  have HND' := Lib.hid hnd
  have HW4 := Lib.hid hw4
  clear c2 hb3 hr3 hb4 hs4 hr4 hnd hw4
  go_wp2_with fail
  go_region_held3 (fun w' => w'.cell? ⟨w3.heap.size, 0, none⟩ = some (.int .i64 (kindOf lf : Int)) ∧ w'.cell? ⟨w3.heap.size, 1, none⟩ = some (.int .u64 (g : Int)) ∧ w'.cell? ⟨t, 2, none⟩ = some (.int .u64 (gen : Int)))
    (exact ⟨p0, p1, c2'⟩)
    (first | (go_at_call 86; refine (trKind_any _ _).mono ?_; rintro e w5 ⟨rfl, rfl⟩))
  go_wp2_with fail
  refine HND'.out.mono ?_
  rintro e w5 ⟨K, V, D, rfl, hn5, hb5⟩
  obtain ⟨A1, n1, c1, A2, n2, c2, A4, n4, c4, rfl, rfl, rfl⟩ := hn5.is.slices
  have hb5' : Below w4.heap.size w4 w5 := by
    rw [← HW4.out] at hb5
    exact (up_drew (Below.refl _ w4)).trans hb5
  have ho5 := (hb5'.block w.heap.size (by have := HS2.out; have := HSZ.out; omega)).trans HO4.out
  obtain ⟨y0, y1, y2, y3, f0, f1, f2, f3⟩ := out_cells ho5
  obtain ⟨W, hW⟩ : ∃ W, W = store4 w5 w.heap.size lf (.slice A1 n1 c1) (.slice A2 n2 c2) (.slice A4 n4 c4) := ⟨_, rfl⟩
  have hbox := box_of_top (store4_top (lf := lf) (K := .slice A1 n1 c1) (V := .slice A2 n2 c2) (D := .slice A4 n4 c4) ho5)
  have hfi := hn5.store4 (lf := lf) (K := .slice A1 n1 c1) (V := .slice A2 n2 c2) (D := .slice A4 n4 c4) (N := w.heap.size) (by rw [← HW4.out]; have := HS2.out; have := HSZ.out; show w.heap.size < w4.heap.size + 1; omega)
  have hsW : W.heap.size = w5.heap.size := by rw [hW, store4_size]
  have hfin : w.heap.size ≤ w2.heap.size ∧ w2.heap.size ≤ W.heap.size ∧ NdNew W w2.heap.size (.slice A1 n1 c1) (.slice A2 n2 c2) (.slice A4 n4 c4) n ∧ TS W (Nout N w2.heap.size W.heap.size) c bf p s t x2 d2 sp gen root height ∧ Only (Foot N c bf) w W := by
    have hs2 := HS2.out
    have hsz := HSZ.out
    have hs5 := hb5'.size
    have hlt := H.out.lt
    refine ⟨Nat.le_of_lt hs2, by omega, ?_, ?_, ?_⟩
    · rw [hW]
      refine hfi.weaken ?_
      rw [← HW4.out]
      show w2.heap.size ≤ w4.heap.size + 1
      omega
    · have h5 : TS w5 (Nout (Nout N w.heap.size (w.heap.size + 1)) w2.heap.size W.heap.size) c bf p s t x2 d2 sp gen root height := HTS.out.own (up HB4.out hb5')
      have hno := H.out.nots
      have h6 : TS W (Nout (Nout N w.heap.size (w.heap.size + 1)) w2.heap.size W.heap.size) c bf p s t x2 d2 sp gen root height := by
        refine h5.other (F := fun k => k = w.heap.size) (by rw [hW]; exact store4_only) ?_
        rintro k hk rfl
        refine ⟨fun e => ?_, by omega, by omega⟩
        rcases e with e | e | e
        · exact e.1.2 ⟨Nat.le_refl _, Nat.lt_succ_self _⟩
        · omega
        · omega
      exact h6.sets (fun k _ hk => ⟨hk.1.1, hk.2⟩) ⟨fun e => hno.1 e.1, fun e => hno.2.1 e.1, fun e => hno.2.2.1 e.1, fun e => hno.2.2.2 e.1⟩
    · have h5 : Only (Foot N c bf) w w5 := HON.out.late ((up HB4.out hb5').mono (Nat.le_of_lt hs2))
      rw [hW]
      exact h5.late (store4_below (Nat.le_refl _))
  rw [← hW] at hbox hfi
  obtain ⟨q0, q1, q2, q3⟩ := hbox
  have HFi := Lib.hid hfin
  have HWW := Lib.hid hW
  clear hfi hfin hW hn5 hb5 hb5' ho5 hsW
  go_wp2_with fail
  have hW := HWW.out
  unfold store4 at hW
  rw [← hW]
  exact bodyPost_ret (v := .tuple #[ndVal lf (.slice A1 n1 c1) (.slice A2 n2 c2) (.slice A4 n4 c4), .int .i64 0]) (by simp [results, Tryz.results59, go_sem, q0, q1, q2, q3]) rfl ⟨_, _, _, _, rfl, HFi.out.1, HFi.out.2.1, HFi.out.2.2.1, HFi.out.2.2.2.1, HFi.out.2.2.2.2⟩
end
end Go.Proofs.YtnmokkkbghlpbaaGreat
/-
  A cache over a device that does not fail, as plain mathematics: it tells what was put last, or what the device had.
-/
namespace Go.Proofs.YtnmokkkbghlpbaaGreat
open Go.RowKit
section
variable {x y : Cch} {d : Dev} {n i : Nat} {no : Int} {f : Frm} {H H' : Nat → List UInt8} {l : List UInt8}
theorem now_put (d : Dev) (i : Nat) (l : List UInt8) (j : Nat) : (d.put i l).now j = if j = i then l else d.now j := by
  unfold Dev.now Dev.put
  by_cases e : j = i
  · simp [e]
  · simp [e]
/-- Frame i, laid anew. -/
def Cch.place (x : Cch) (i : Nat) (f : Frm) : Cch := ⟨x.L.set i f, x.hand⟩
theorem place_len (x : Cch) (i : Nat) (f : Frm) : (x.place i f).L.length = x.L.length := List.length_set
theorem place_fr (hi : i < x.L.length) (f : Frm) (j : Nat) : (x.place i f).fr j = if j = i then f else x.fr j := fr_set hi f j
theorem place_place (x : Cch) (i : Nat) (f g : Frm) : (x.place i f).place i g = x.place i g := by
  unfold Cch.place
  rw [List.set_set]
theorem use_place (x : Cch) (i : Nat) : x.use i = x.place i { x.fr i with used := true } := rfl
theorem put_place (hi : i < x.L.length) (l : List UInt8) : ((x.bytes i l).soil i).use i = x.place i { x.fr i with b := l, dirty := true, used := true } := by
  have e1 : x.bytes i l = x.place i { x.fr i with b := l } := rfl
  have e2 : (x.bytes i l).soil i = x.place i { x.fr i with b := l, dirty := true } := by
    rw [e1]
    show (x.place i _).place i { (x.place i _).fr i with dirty := true } = _
    rw [place_fr hi, if_pos rfl, place_place]
  rw [e2]
  show (x.place i _).place i { (x.place i _).fr i with used := true } = _
  rw [place_fr hi, if_pos rfl, place_place]
theorem hold_place (hi : i < x.L.length) (hz : x.fr i = Frm.zero) (no : Int) (l : List UInt8) : (x.hold i no).bytes i l = x.place i ⟨true, no, l, false, false, 0⟩ := by
  have e1 : x.hold i no = x.place i { x.fr i with full := true, no := no } := rfl
  rw [e1]
  show (x.place i _).place i { (x.place i _).fr i with b := l } = _
  rw [place_fr hi, if_pos rfl, place_place, hz]
  rfl
/-- What is told of each sector is H. -/
structure Inv (x : Cch) (d : Dev) (H : Nat → List UInt8) : Prop where
  ok : x.Ok d.L.length
  calm : d.Calm
  held : ∀ i, i < x.L.length → (x.fr i).full = true → (x.fr i).b = H (x.fr i).no.toNat
  clean : ∀ i, i < x.L.length → (x.fr i).full = true → (x.fr i).dirty = false → d.now (x.fr i).no.toNat = H (x.fr i).no.toNat
  free : ∀ m : Nat, m < d.L.length → x.holder (m : Int) = none → d.now m = H m
theorem Inv.place (h : Inv x d H) (hi : i < x.L.length) (hf : f.full = true) (hw : ((x.fr i).full = true ∧ f.no = (x.fr i).no) ∨ ((x.fr i).full = false ∧ x.holder f.no = none ∧ 0 ≤ f.no ∧ f.no < d.L.length))
    (hH : ∀ m, m ≠ f.no.toNat → H' m = H m) (hb : f.b = H' f.no.toNat) (hd : f.dirty = false → d.now f.no.toNat = H' f.no.toNat) : Inv (x.place i f) d H' ∧ (x.place i f).holder f.no = some i := by
  have hno : 0 ≤ f.no ∧ f.no < d.L.length := by
    rcases hw with ⟨a, b⟩ | ⟨_, _, c⟩
    · rw [b]; exact h.ok.within i hi a
    · exact c
  have other : ∀ j, j < x.L.length → j ≠ i → (x.fr j).full = true → (x.fr j).no.toNat ≠ f.no.toNat := by
    intro j hj hji hjf e
    have hw2 := h.ok.within j hj hjf
    have e2 : (x.fr j).no = f.no := by have : 0 ≤ (x.fr j).no := hw2.1; omega
    rcases hw with ⟨a, b⟩ | ⟨_, b, _⟩
    · exact hji (h.ok.once j i hj hi hjf a (e2.trans b))
    · exact holder_none_iff.1 b j hj hjf e2
  have hfr := fun j => place_fr hi f j
  have hlen := place_len x i f
  have hok : (x.place i f).Ok d.L.length := by
    rcases hw with ⟨a, b⟩ | ⟨_, b, c⟩
    · exact h.ok.alter hi hf a b
    · have h1 := h.ok.hold hi c b
      have h2 : i < (x.hold i f.no).L.length := by rw [Cch.hold_len]; exact hi
      have e : x.place i f = Cch.mk ((x.hold i f.no).L.set i f) (x.hold i f.no).hand := by
        show x.place i f = (x.place i _).place i f
        rw [place_place]
      rw [e]
      have e3 : (x.hold i f.no).fr i = { x.fr i with full := true, no := f.no } := by
        have := fr_set hi { x.fr i with full := true, no := f.no } i
        rw [if_pos rfl] at this
        exact this
      exact h1.alter h2 hf (by rw [e3]) (by rw [e3])
  have hhold : (x.place i f).holder f.no = some i := by
    rw [hok.holder_iff, hlen, hfr, if_pos rfl]
    exact ⟨hi, hf, rfl⟩
  refine ⟨⟨hok, h.calm, fun j hj hjf => ?_, fun j hj hjf hjd => ?_, fun m hm hn => ?_⟩, hhold⟩
  · rw [hlen] at hj
    rw [hfr] at hjf ⊢
    split
    · exact hb
    · rename_i e
      rw [if_neg e] at hjf
      rw [hH _ (other j hj e hjf)]
      exact h.held j hj hjf
  · rw [hlen] at hj
    rw [hfr] at hjf hjd ⊢
    by_cases e : j = i
    · rw [if_pos e] at hjd ⊢
      exact hd hjd
    · rw [if_neg e] at hjf hjd ⊢
      rw [hH _ (other j hj e hjf)]
      exact h.clean j hj hjf hjd
  · have hmf : m ≠ f.no.toNat := by
      intro e
      have : (m : Int) = f.no := by omega
      rw [this, hhold] at hn
      cases hn
    rw [hH m hmf]
    refine h.free m hm ?_
    rw [holder_none_iff] at hn ⊢
    intro j hj hjf e
    by_cases e2 : j = i
    · subst e2
      rcases hw with ⟨_, b⟩ | ⟨a, _⟩
      · exact hmf (by rw [b, e]; omega)
      · rw [a] at hjf; cases hjf
    · have := hn j (by rw [hlen]; exact hj)
      rw [hfr, if_neg e2] at this
      exact this hjf e
/-- The like parts, the like tale. -/
theorem Inv.same (h : Inv x d H) (hy : y.Ok d.L.length) (hl : y.L.length = x.L.length) (hp : ∀ j, (y.fr j).full = (x.fr j).full ∧ (y.fr j).no = (x.fr j).no ∧ (y.fr j).b = (x.fr j).b ∧ (y.fr j).dirty = (x.fr j).dirty) : Inv y d H := by
  refine ⟨hy, h.calm, fun i hi hf => ?_, fun i hi hf hd => ?_, fun m hm hn => ?_⟩
  · rw [hl] at hi
    rw [(hp i).1] at hf
    rw [(hp i).2.1, (hp i).2.2.1]
    exact h.held i hi hf
  · rw [hl] at hi
    rw [(hp i).1] at hf
    rw [(hp i).2.2.2] at hd
    rw [(hp i).2.1]
    exact h.clean i hi hf hd
  · refine h.free m hm ?_
    rw [holder_none_iff] at hn ⊢
    intro j hj hjf
    have := hn j (by rw [hl]; exact hj) (by rw [(hp j).1]; exact hjf)
    rw [(hp j).2.1] at this
    exact this
theorem Inv.wipe (h : Inv x d H) (hi : i < x.L.length) (hf : (x.fr i).full = true) (hd : (x.fr i).dirty = false) : Inv (x.wipe i) d H := by
  have hfr : ∀ j, (x.wipe i).fr j = if j = i then Frm.zero else x.fr j := fun j => fr_set hi _ j
  refine ⟨h.ok.wipe hi, h.calm, fun j hj hjf => ?_, fun j hj hjf hjd => ?_, fun m hm hn => ?_⟩
  · rw [Cch.wipe_len] at hj
    rw [hfr] at hjf ⊢
    split at hjf
    · cases hjf
    · rename_i e; rw [if_neg e]; exact h.held j hj hjf
  · rw [Cch.wipe_len] at hj
    rw [hfr] at hjf hjd ⊢
    by_cases e : j = i
    · rw [if_pos e] at hjf; cases hjf
    · rw [if_neg e] at hjf hjd ⊢; exact h.clean j hj hjf hjd
  · by_cases hm2 : (x.fr i).no = m
    · have := h.clean i hi hf hd
      rw [hm2] at this
      simpa using this
    · refine h.free m hm ?_
      rw [holder_none_iff] at hn ⊢
      intro j hj hjf
      by_cases e : j = i
      · subst e; exact hm2
      · have := hn j (by rw [Cch.wipe_len]; exact hj)
        rw [hfr, if_neg e] at this
        exact this hjf
theorem Inv.write (h : Inv x d H) (hi : i < x.L.length) (hf : (x.fr i).full = true) : (x.write d i).1 = 0 ∧ Inv (x.write d i).2.1 (x.write d i).2.2 H ∧ ((x.write d i).2.1.fr i).dirty = false ∧ ((x.write d i).2.1.fr i).full = true ∧ (∀ j, (x.fr j).dirty = false → ((x.write d i).2.1.fr j).dirty = false) ∧ (x.write d i).2.2.n = d.n + 1 := by
  have hok := h.ok.write hi hf d
  have hc := write_calm (x := x) h.calm i
  rw [hc] at hok ⊢
  have hw := h.ok.within i hi hf
  have hfr : ∀ j, (Cch.mk (x.L.set i { x.fr i with dirty := false }) x.hand).fr j = if j = i then { x.fr i with dirty := false } else x.fr j := fun j => fr_set hi _ j
  have hl : (Cch.mk (x.L.set i { x.fr i with dirty := false }) x.hand).L.length = x.L.length := List.length_set
  have hnow := now_put d (x.fr i).no.toNat (x.fr i).b
  refine ⟨rfl, ⟨hok, h.calm, fun j hj hjf => ?_, fun j hj hjf hjd => ?_, fun m hm hn => ?_⟩, by rw [hfr, if_pos rfl], by rw [hfr, if_pos rfl]; exact hf, fun j hjd => ?_, rfl⟩
  · rw [hl] at hj
    rw [hfr] at hjf ⊢
    by_cases e : j = i
    · rw [if_pos e]; exact h.held i hi hf
    · rw [if_neg e] at hjf ⊢; exact h.held j hj hjf
  · rw [hl] at hj
    rw [hfr] at hjf hjd ⊢
    show (d.put (x.fr i).no.toNat (x.fr i).b).now _ = _
    rw [hnow]
    by_cases e : j = i
    · rw [if_pos e]
      rw [if_pos rfl]
      exact h.held i hi hf
    · rw [if_neg e] at hjf hjd ⊢
      have hwj := h.ok.within j hj hjf
      have hne : ¬ (x.fr j).no.toNat = (x.fr i).no.toNat := fun e2 => e (h.ok.once j i hj hi hjf hf (by have a : 0 ≤ (x.fr i).no := hw.1; have b : 0 ≤ (x.fr j).no := hwj.1; omega))
      rw [if_neg hne]
      exact h.clean j hj hjf hjd
  · show (d.put (x.fr i).no.toNat (x.fr i).b).now m = _
    rw [hnow]
    have hn' : x.holder (m : Int) = none := by
      rw [← hn]
      exact (holder_find (map_set_same fun hi' => by unfold Cch.fr; rw [getD_at hi']) _).symm
    have hne : ¬ m = (x.fr i).no.toNat := fun e => holder_none_iff.1 hn' i hi hf (by have a : 0 ≤ (x.fr i).no := hw.1; omega)
    rw [if_neg hne]
    exact h.free m hm hn'
  · rw [hfr]
    split
    · rfl
    · exact hjd
theorem Inv.room (h : Inv x d H) : Inv (x.room d).2.2.1 (x.room d).2.2.2 H := by
  have hR := h.ok.room d
  unfold Cch.room at hR ⊢
  split
  · exact h
  · rename_i he
    rw [he] at hR
    have hall := empty_all he
    have hT := h.ok.turn hall
    have hP := turn_parts x
    have hl := turn_len x
    have hI : Inv x.turn.2 d H := h.same hT hl fun j => ⟨(hP j).1, (hP j).2.1, (hP j).2.2.1, (hP j).2.2.2.1⟩
    have hs := turnGo_some (2 * x.L.length) x
    split
    · rename_i y ht
      rw [ht] at hI
      exact hI
    · rename_i i y ht
      have ht' : turnGo (2 * x.L.length) x = (some i, y) := ht
      rw [ht'] at hs
      rw [ht] at hI hP hl
      have hI : Inv y d H := hI
      have hl : y.L.length = x.L.length := hl
      have hi := (hs i h.ok.hand rfl).1
      have hyi : i < y.L.length := by omega
      have hfi : (y.fr i).full = true := by have := (hP i).1; rw [show (y.fr i).full = (x.fr i).full from this]; exact hall i hi
      split
      · obtain ⟨w1, w2, w3, w4, _⟩ := hI.write hyi hfi
        rw [if_pos w1]
        exact w2.wipe (by rw [(write_L y d i).1]; exact hyi) w4 w3
      · rename_i hd
        exact hI.wipe hyi hfi (by simpa using hd)
end
end Go.Proofs.YtnmokkkbghlpbaaGreat
/-
  What stays so of a cache behind a Put, whatever the device does.
-/
namespace Go.Proofs.YtnmokkkbghlpbaaGreat
open Go.RowKit
section
variable {x y : Cch} {d d' : Dev} {n i j : Nat} {no : Int}
/-- A frame marked as Put and Get mark it. -/
theorem marked (h : x.Ok n) (hi : i < x.L.length) (hf : (x.fr i).full = true) (f : Frm) (h1 : f.full = true) (h2 : f.no = (x.fr i).no) (h3 : f.pins = (x.fr i).pins) :
    (x.place i f).Ok n ∧ (x.place i f).L.length = x.L.length ∧ (∀ j, ((x.place i f).fr j).pins = (x.fr j).pins) := by
  obtain ⟨a, b⟩ := h.mark hi hf f h1 h2 h3
  exact ⟨a, place_len x i f, fun j => (b j).1⟩
theorem Cch.Ok.putting (h : x.Ok d.L.length) (no : Int) (l : List UInt8) : (x.put d no l).2.1.Ok d.L.length ∧ (x.put d no l).2.1.L.length = x.L.length ∧ (∀ j, ((x.put d no l).2.1.fr j).pins = (x.fr j).pins) ∧ (x.put d no l).2.2.L.length = d.L.length ∧ (x.put d no l).2.2.n ≤ d.n + 1 := by
  unfold Cch.put
  by_cases hno : 0 ≤ no ∧ no < d.L.length
  · rw [if_pos hno]
    rcases hh : x.holder no with _ | i
    · obtain ⟨s1, s2, s3, s4⟩ := room_spec x d h.hand
      obtain ⟨r1, r2, r3, _, r5⟩ := h.room d
      rcases hr : x.room d with ⟨o, e0, y, dy⟩
      rw [hr] at s1 s2 s3 s4 r1 r2 r3 r5
      rcases o with _ | i
      · exact ⟨r1, s1, r3, s2, s3⟩
      · have hz : y.fr i = Frm.zero := (r2 i rfl).2.1
        have s1 : y.L.length = x.L.length := s1
        have hiy : i < y.L.length := by have := (r2 i rfl).1; omega
        have r1 : y.Ok d.L.length := r1
        have r3 : ∀ j, (y.fr j).pins = (x.fr j).pins := r3
        obtain ⟨t1, t2, t3, t4⟩ := r1.took hiy hz hno (r5 no hh) l
        obtain ⟨z, hzz⟩ : ∃ z, z = (y.hold i no).bytes i l := ⟨_, rfl⟩
        have hiz : i < z.L.length := by rw [hzz, t2]; exact hiy
        have hz3 : ∀ j, z.fr j = if j = i then ⟨true, no, l, false, false, 0⟩ else y.fr j := by rw [hzz]; exact t3
        have hzi : z.fr i = ⟨true, no, l, false, false, 0⟩ := by rw [hz3, if_pos rfl]
        obtain ⟨a1, a2, a3⟩ := marked (x := z) (n := d.L.length) (by rw [hzz]; exact t1) hiz (by rw [hzi]) { z.fr i with dirty := true } (by rw [hzi]) rfl rfl
        have hfi : (z.place i { z.fr i with dirty := true }).fr i = { z.fr i with dirty := true } := by rw [place_fr hiz, if_pos rfl]
        obtain ⟨b1, b2, b3⟩ := marked a1 (i := i) (by rw [a2]; exact hiz) (by rw [hfi, hzi]) { (z.place i { z.fr i with dirty := true }).fr i with used := true } (by rw [hfi, hzi]) rfl rfl
        have e : ((((y.hold i no).bytes i l).soil i).use i) = (z.place i { z.fr i with dirty := true }).place i { (z.place i { z.fr i with dirty := true }).fr i with used := true } := by rw [← hzz]; rfl
        show ((((y.hold i no).bytes i l).soil i).use i).Ok d.L.length ∧ ((((y.hold i no).bytes i l).soil i).use i).L.length = x.L.length ∧ (∀ j, (((((y.hold i no).bytes i l).soil i).use i).fr j).pins = (x.fr j).pins) ∧ dy.L.length = d.L.length ∧ dy.n ≤ d.n + 1
        rw [e]
        refine ⟨b1, b2.trans (a2.trans (by rw [hzz, t2]; exact s1)), fun j => (b3 j).trans ((a3 j).trans ?_), s2, s3⟩
        rw [hz3]
        split
        · rename_i e2
          subst e2
          show 0 = _
          rw [← r3, hz]
          rfl
        · exact r3 j
    · obtain ⟨hi, hf, _⟩ := holder_lt hh
      have hf : (x.fr i).full = true := hf
      show ((((x.bytes i l).soil i).use i)).Ok d.L.length ∧ ((((x.bytes i l).soil i).use i)).L.length = x.L.length ∧ (∀ j, ((((x.bytes i l).soil i).use i).fr j).pins = (x.fr j).pins) ∧ d.L.length = d.L.length ∧ d.n ≤ d.n + 1
      rw [put_place hi l]
      obtain ⟨b1, b2, b3⟩ := marked h hi hf { x.fr i with b := l, dirty := true, used := true } hf rfl rfl
      exact ⟨b1, b2, b3, rfl, by omega⟩
  · rw [if_neg hno]
    exact ⟨h, rfl, fun _ => rfl, rfl, by show d.n ≤ d.n + 1; omega⟩
end
end Go.Proofs.YtnmokkkbghlpbaaGreat
/-
  A page written.
-/
namespace Go.Proofs.YtnmokkkbghlpbaaGreat
open Go.RowKit
section
variable {w w' : World} {N N' : Nat → Prop} {c bf p s t : Nat} {x x' : Cch} {d d' : Dev} {sp sp' : Spc} {gen root height : Nat} {a b : Nat}
theorem Mine.addr256 {w : World} {base : Nat} {v : Value} {l : List UInt8} (h : Mine w base 5 v (cellsB l)) (hl : 0 < l.length) : ∃ g o cc, v = .slice (some ⟨g, o, none⟩) l.length cc ∧ base ≤ g ∧ g < w.heap.size ∧ w.rangeAt g o (cellsB l) := by
  obtain ⟨A, cc, rfl, _, _, hr⟩ := h.rd.bytes
  obtain ⟨A2, c2, e1, _, _, _, h5⟩ := hr
  obtain ⟨g, o, e, hg, hc⟩ := h5 (by rw [cellsB_length]; exact hl)
  injection e1 with e1 e2 e3
  subst e1 e
  refine ⟨g, o, cc, rfl, ?_, hg, hc⟩
  rcases h.2 with ⟨e1, hn⟩ | ⟨g', cap, cur, e1, hbg, _⟩
  · injection e1 with e1; cases e1
  · injection e1 with e1 e2 e3
    injection e1 with e1
    have : g = g' := congrArg Addr.block e1
    omega
set_option maxRecDepth 100000 in
set_option maxHeartbeats 1600000 in
/-- A node written into a page. -/
theorem trWrite_any (h : TS w N c bf p s t x d sp gen root height) (hN : ∀ k, w.heap.size ≤ k → N k) (hd : d.n < 999999) {no : Nat} {n : Nd} {K V D : Value} (hno : no ≤ 1599)
    (hn : NdIs w w.heap.size K V D n) (hsh : n.Short 1000000) (hf : n.Fit) :
    Calls Tryz.prog 106 #[at0 t, .int .i64 (no : Int), ndVal n.leaf K V D] w fun e w' => e = .returned (.int .i64 (x.put d (no : Int) (pgBytes (kindOf n.leaf) no gen n.bytes)).1) ∧
      TS w' N c bf p s t (x.put d (no : Int) (pgBytes (kindOf n.leaf) no gen n.bytes)).2.1 (x.put d (no : Int) (pgBytes (kindOf n.leaf) no gen n.bytes)).2.2 sp gen root height ∧ Only (Foot N c bf) w w' := by
  obtain ⟨A1, c1, A2, c2, A3, c3, rfl, rfl, rfl⟩ := hn.form
  have hbl : n.bytes.length ≤ 232 := by rw [n.bytes_len]; exact hf.fit
  obtain ⟨w1, hw1⟩ : ∃ y, y = w.alloc (.cells #[.bool n.leaf, .slice A1 n.keys.length c1, .slice A2 n.vals.length c2, .slice A3 n.kids.length c3] 126) := ⟨_, rfl⟩
  have hb1 : Below w.heap.size w w1 := by rw [hw1]; exact (Below.refl _ _).alloc (Nat.le_refl _) _
  have hs1 : w1.heap.size = w.heap.size + 1 := by rw [hw1]; simp
  have hn1 := hn.below hb1
  have henc := encode_good hn1 (by omega) hsh hf
  have hbx : NdBox w1 w.heap.size n.leaf (.slice A1 n.keys.length c1) (.slice A2 n.vals.length c2) (.slice A3 n.kids.length c3) := by rw [hw1]; exact NdBox.made w n.leaf _ _ _
  obtain ⟨l, hl⟩ : ∃ y, y = pgBytes (kindOf n.leaf) no gen n.bytes := ⟨_, rfl⟩
  have hl256 : l.length = 256 := by rw [hl]; exact pgBytes_length _ _ _ _ hbl
  have hk1 : 1 ≤ kindOf n.leaf ∧ kindOf n.leaf ≤ 4 := by unfold kindOf; split <;> omega
  have hpe := fun (A : Option Addr) (cc : Nat) (W : World) (hr : Rd W W.heap.size (.slice A n.bytes.length cc) (cellsB n.bytes)) => pgEnc_ok no (kindOf n.leaf) gen A n.bytes cc W _ hr (Nat.le_refl _) hno hk1.1 hk1.2 hbl
  rw [← hl] at hpe ⊢
  have hput := fun (W : World) (M : Nat → Prop) (hW : TS W M c bf p s t x d sp gen root height) (hM : ∀ k, W.heap.size ≤ k → M k) (bb bo cc : Nat) (hrw : W.rangeAt bb bo (cellsB l)) (h1 : bb < W.heap.size) (h2 : ¬ Foot M c bf bb) => put_any hW.cd hW.ok.within hd hM (no : Int) (cc := cc) hl256 hrw h1 h2
  have hok : (x.put d (no : Int) l).2.1.Ok (x.put d (no : Int) l).2.2.L.length := by
    obtain ⟨a1, _, _, a4, _⟩ := h.ok.putting (no : Int) l
    rw [a4]
    exact a1
  have c2' := (h.below hb1).tr.c2
  have hN1 := hs1
  obtain ⟨lf, hlf⟩ : ∃ y, y = n.leaf := ⟨_, rfl⟩
  rw [← hlf] at henc hbx hw1 hpe ⊢
  obtain ⟨a1, ha1⟩ : ∃ y, y = n.keys.length := ⟨_, rfl⟩
  obtain ⟨a2, ha2⟩ : ∃ y, y = n.vals.length := ⟨_, rfl⟩
  obtain ⟨a3, ha3⟩ : ∃ y, y = n.kids.length := ⟨_, rfl⟩
  obtain ⟨lb, hlb⟩ : ∃ y, y = n.bytes.length := ⟨_, rfl⟩
  rw [← ha1, ← ha2, ← ha3] at henc hbx hw1 ⊢
  rw [← hlb] at hpe
  obtain ⟨x2, hx2⟩ : ∃ y, y = (x.put d (no : Int) l).2.1 := ⟨_, rfl⟩
  obtain ⟨d2, hd2⟩ : ∃ y, y = (x.put d (no : Int) l).2.2 := ⟨_, rfl⟩
  obtain ⟨e2, he2⟩ : ∃ y, y = (x.put d (no : Int) l).1 := ⟨_, rfl⟩
  rw [← hx2, ← hd2] at hok
  rw [← hx2, ← hd2, ← he2] at hput
  rw [← hx2, ← hd2, ← he2]
  rw [hw1] at henc hbx c2'
  obtain ⟨b0, b1, b2, b3⟩ := hbx
  have H := Lib.hid h
  have HN := Lib.hid hN
  have HB1 := Lib.hid hb1
  have HS1 := Lib.hid hs1
  have HE := Lib.hid henc
  have HP := Lib.hid hpe
  have HPut := Lib.hid hput
  have HOK := Lib.hid hok
  have HW1 := Lib.hid hw1
  have HL := Lib.hid hl256
  have HLB := Lib.hid hlb
  clear h hN hd hno hn hsh hf hbl hb1 hs1 hn1 henc hpe hput hok hlf ha1 ha2 ha3 hlb hx2 hd2 he2 hw1 hl hl256 hk1 hN1
  go_enter Tryz.func106, Tryz.ntmps106
  go_wp2_with fail
  refine HE.out.mono ?_
  rintro e w2 ⟨v, rfl, hown, hb2⟩
  obtain ⟨A, cc, rfl, _, _, hv⟩ := hown.rd.bytes
  rw [← HLB.out] at hv ⊢
  have hb2' : Below (w.heap.size + 1) (w.alloc (.cells #[.bool lf, .slice A1 a1 c1, .slice A2 a2 c2, .slice A3 a3 c3] 126)) w2 := by simpa using hb2
  have d0 := (hb2'.cell (p := ⟨w.heap.size, 0, none⟩) (Nat.lt_succ_self _)).trans b0
  have hlt := H.out.lt
  have d1 := (hb2'.cell (p := ⟨t, 2, none⟩) (by show t < w.heap.size + 1; omega)).trans c2'
  have hb02 : Below w.heap.size w w2 := by
    rw [← HW1.out] at hb2'
    exact HB1.out.trans (hb2'.mono (Nat.le_succ _))
  have hpe := HP.out A cc w2.drew hv
  have HB2 := Lib.hid hb02
  have HPE := Lib.hid hpe
  clear b0 b1 b2 b3 hown hb2 hb2' hb02 hpe hv hlt c2'
  go_wp2_with fail
  go_region_held3 (fun w' => w'.cell? ⟨w.heap.size, 0, none⟩ = some (.bool lf) ∧ w'.cell? ⟨t, 2, none⟩ = some (.int .u64 (gen : Int)))
    (first | exact ⟨d0, d1⟩ | exact ⟨e0.out, e1.out⟩)
    (first
      | (go_at_call 86; refine (trKind_any _ _).mono ?_; rintro e w5 ⟨rfl, rfl⟩)
      | (go_at_call 135; refine HPE.out.mono ?_; rintro e w3 ⟨v3, rfl, hown3, hb3⟩; have HB3 := Lib.hid hb3; have HOW3 := Lib.hid hown3; have e0 := Lib.hid ((hb3.cell (p := ⟨w.heap.size, 0, none⟩) (World.block_lt_of_cell? w2 _ d0)).trans d0); have e1 := Lib.hid ((hb3.cell (p := ⟨t, 2, none⟩) (World.block_lt_of_cell? w2 _ d1)).trans d1); clear hb3 hown3))
  have hb3 : Below w.heap.size w w3 := HB2.out.trans (((up_drew (Below.refl _ w2)).trans HB3.out).mono HB2.out.size)
  obtain ⟨g, o, c5, e5, hg1, hg2, hrw⟩ := HOW3.out.addr256 (by rw [HL.out]; omega)
  rw [HL.out] at e5
  subst e5
  have hts := H.out.own (b := w3.heap.size) hb3
  have hlt := H.out.lt
  have hs2 : w.heap.size ≤ w2.drew.heap.size := HB2.out.size
  have hput := HPut.out w3 (Nout N w.heap.size w3.heap.size) hts (fun k hk => ⟨HN.out k (Nat.le_trans hb3.size hk), by omega⟩) g o c5 hrw hg2 (by
    intro e
    rcases e with e | e | e
    · exact e.2 ⟨by omega, hg2⟩
    · omega
    · omega)
  have k0 := hts.tr.c0
  have HPu := Lib.hid hput
  have HT := Lib.hid hts
  have HB4 := Lib.hid hb3
  clear hb3 hrw hts hput hlt hs2 hg1 hg2 d0 d1
  go_wp2_with fail
  refine HPu.out.mono ?_
  rintro e w4 ⟨rfl, hcd, hon⟩
  have hfin : TS w4 N c bf p s t x2 d2 sp gen root height ∧ Only (Foot N c bf) w w4 :=
    ⟨(HT.out.cached hcd hon HOK.out).back H.out, (Only.of_below HB4.out).trans hon.less⟩
  have HF := Lib.hid hfin
  clear hcd hon hfin k0
  go_wp2_with fail
  go_ret
  exact ⟨rfl, HF.out⟩
end
end Go.Proofs.YtnmokkkbghlpbaaGreat
/-
  Pages taken and given back; whether there is room.
-/
namespace Go.Proofs.YtnmokkkbghlpbaaGreat
open Go.RowKit
section
variable {w w' : World} {N N' : Nat → Prop} {c bf p s t : Nat} {x x' : Cch} {d d' : Dev} {sp sp' : Spc} {gen root height : Nat} {a b : Nat}
/-- The space has turned. -/
theorem TS.spaced (h : TS w N c bf p s t x d sp gen root height) (hs : SpcIs w' s sp') (ho : Only (fun k => k = s) w w') : TS w' N c bf p s t x d sp' gen root height :=
  ⟨h.cd.other ho (by rintro k _ rfl; exact h.ns), hs, h.tr.only ho (fun e => h.st e.symm), h.ns, h.nt, h.st, h.ok⟩
set_option maxRecDepth 100000 in
theorem trTake_ok (h : TS w N c bf p s t x d sp gen root height) {m : Nat} (hm : LeastNot sp.held m) (h0 : m ≠ 0) (hmn : m < sp.n) :
    Calls Tryz.prog 105 #[at0 t] w fun e w' => e = .returned (.tuple #[.int .i64 (m : Int), .int .i64 0]) ∧ TS w' N c bf p s t x d (sp.put m true) gen root height ∧ Only (fun k => k = s) w w' := by
  have hA := alloc_yes h.sp hm hmn
  have k1 := h.tr.c1
  have hz : ((m : Int) == 0) = false := by simp; omega
  have HA := Lib.hid hA
  have H := Lib.hid h
  clear hA h hm h0 hmn
  go_enter Tryz.func105, Tryz.ntmps105
  go_wp2_with (go_at_call 134; refine HA.out.mono ?_; rintro e w' ⟨rfl, hs, ho⟩; have HF := Lib.hid (And.intro (H.out.spaced hs ho) ho); clear hs ho)
  go_ret2
  exact ⟨rfl, HF.out⟩
theorem Rd.atI {w : World} {B n c : Nat} {A : Option Addr} {l : List Int} (h : Rd w B (.slice A n c) (cellsI l)) {k : Nat} (hk : k < n) : ∃ g o, A = some ⟨g, o, none⟩ ∧ g < B ∧ w.cell? ⟨g, o + k, none⟩ = some (.int .i64 (l.getD k 0)) := by
  obtain ⟨A', c', e, h1, h2, h3, h4⟩ := id h
  have hl := h.lenI.1
  injection e with e1 e2 e3
  subst e1
  obtain ⟨g, o, rfl, hg, _⟩ := h4 (by rw [← e2]; omega)
  exact ⟨g, o, rfl, hg, h.cellI hk⟩
theorem cell_of_block {p : Addr} (h : w'.heap[p.block]? = w.heap[p.block]?) : w'.cell? p = w.cell? p := by
  unfold World.cell?
  rw [h]
theorem Cch.Ok.dropped {n : Nat} (h : x.Ok n) (no : Int) : (x.drop no).2.Ok n := by
  unfold Cch.drop
  rcases he : x.holder no with _ | i
  · exact h
  · show (if (x.L.getD i Frm.zero).pins = 0 then (true, x.wipe i) else (false, x)).2.Ok n
    split
    · exact h.wipe (holder_lt he).1
    · exact h
/-- A page given back: dropped from the cache, if it was fresh. -/
def relOne (q : Cch × Spc) (no : Int) : Cch × Spc := (if q.2.fresh no = true then (q.1.drop no).2 else q.1, q.2.freed no)
/-- Pages given back. -/
def relAll (q : Cch × Spc) (L : List Int) : Cch × Spc := L.foldl relOne q
theorem relAll_next (q : Cch × Spc) {L : List Int} {k : Nat} (hk : k < L.length) : relAll q (L.take (k + 1)) = relOne (relAll q (L.take k)) (L.getD k 0) := by
  unfold relAll
  rw [List.take_succ_eq_append_getElem hk, List.foldl_append]
  simp [List.getD, hk]
abbrev FootS (N : Nat → Prop) (c bf s : Nat) : Nat → Prop := fun k => Foot N c bf k ∨ k = s
set_option maxRecDepth 100000 in
set_option maxHeartbeats 1000000 in
theorem trRelease_any (h : TS w N c bf p s t x d sp gen root height) {A : Option Addr} {L : List Int} {cc : Nat} (hr : Rd w w.heap.size (.slice A L.length cc) (cellsI L)) (hA : ∀ g o, A = some ⟨g, o, none⟩ → ¬ FootS N c bf s g) (hL : L.length ≤ 1000000) :
    Calls Tryz.prog 102 #[at0 t, .slice A L.length cc] w fun e w' => e = .returned (.tuple #[]) ∧ TS w' N c bf p s t (relAll (x, sp) L).1 d (relAll (x, sp) L).2 gen root height ∧ Only (FootS N c bf s) w w' := by
  have HR := Lib.hid hr
  have HA := Lib.hid hA
  have H := Lib.hid h
  obtain ⟨n, hn⟩ : ∃ n, n = L.length := ⟨_, rfl⟩
  rw [← hn] at hL ⊢
  have HL := Lib.hid hn
  clear hr hA h hn
  go_enter Tryz.func102, Tryz.ntmps102
  go_wp2_with fail
  go_loopw [9] (fun iv wr => ∃ k : Nat, k ≤ n ∧ iv = .int .i64 (k : Int) ∧ Hid (TS wr N c bf p s t (relAll (x, sp) (L.take k)).1 d (relAll (x, sp) (L.take k)).2 gen root height) ∧ Hid (Only (FootS N c bf s) w wr)) (fun iv _ => n - (intOf iv).toNat)
  case atStart => exact ⟨0, by omega, rfl, Lib.hid H.out, Lib.hid (Only.refl _ _)⟩
  case round =>
    obtain ⟨k, hkn, rfl, HT, HO⟩ := hrel
    by_cases hk : k < n
    · have hk2 : k < L.length := by rw [← HL.out]; exact hk
      have hnx := relAll_next (x, sp) hk2
      obtain ⟨no, hno⟩ : ∃ y, y = L.getD k 0 := ⟨_, rfl⟩
      obtain ⟨q, hq⟩ : ∃ y, y = relAll (x, sp) (L.take k) := ⟨_, rfl⟩
      rw [← hno, ← hq] at hnx
      rw [← hq] at HT
      obtain ⟨g, o, rfl, hg, hc⟩ := HR.out.atI hk2
      rw [← hno] at hc
      have hcr : wr.cell? ⟨g, o + k, none⟩ = some (.int .i64 no) := (cell_of_block (p := ⟨g, o + k, none⟩) (HO.out.block g hg (HA.out g o rfl))).trans hc
      have k1 := HT.out.tr.c1
      have hk0 : (0 : Int) ≤ (k : Int) := by omega
      have hk1 : (k : Int) < (n : Int) := by omega
      have htk : (k : Int).toNat = k := by omega
      have hF := fresh_any HT.out.sp no
      have hE := free_any HT.out.sp no
      obtain ⟨fr, hfr⟩ : ∃ y, y = q.2.fresh no := ⟨_, rfl⟩
      rw [← hfr] at hF
      have HF := Lib.hid hF
      have HE := Lib.hid hE
      have HQ := Lib.hid hq
      have HX := Lib.hid hnx
      have HFr := Lib.hid hfr
      clear hF hE hc hnx hq hno hfr
      cases fr
      · go_wp2_with (first
          | (go_at_call 131; refine HF.out.mono ?_; rintro e w1 ⟨rfl, rfl⟩)
          | (go_at_call 132; refine HE.out.mono ?_; rintro e w1 ⟨rfl, hs, ho⟩; have HT1 := Lib.hid (HT.out.spaced hs ho); have k0 := HT1.out.tr.c0; have HO1 := Lib.hid (HO.out.trans (ho.mono (F' := FootS N c bf s) fun _ _ e => .inr e)); clear hs ho))
        go_roundw
        case rel => exact ⟨k + 1, by omega, by go_num, Lib.hid (by
          have e : relOne q no = (q.1, q.2.freed no) := by unfold relOne; rw [← HFr.out]; rfl
          rw [HX.out, e]
          exact HT1.out), HO1⟩
        case measure => simp [intOf]; omega
      · go_wp2_with (first
          | (go_at_call 131; refine HF.out.mono ?_; rintro e w1 ⟨rfl, rfl⟩)
          | (go_at_call 132; refine HE.out.mono ?_; rintro e w1 ⟨rfl, hs, ho⟩; have HT1 := Lib.hid (HT.out.spaced hs ho); have k0 := HT1.out.tr.c0; have HO1 := Lib.hid (HO.out.trans (ho.mono (F' := FootS N c bf s) fun _ _ e => .inr e)); clear hs ho)
          | (go_at_call 133; refine (cdrop_any HT1.out.cd no).mono ?_; rintro e w2 ⟨rfl, hcd, hon⟩; have HT2 := Lib.hid (HT1.out.cached hcd hon (HT1.out.ok.dropped no)); have HO2 := Lib.hid (HO1.out.trans (hon.mono (F' := FootS N c bf s) fun _ _ e => .inl e)); clear hcd hon))
        go_roundw
        case rel => exact ⟨k + 1, by omega, by go_num, Lib.hid (by
          have e : relOne q no = ((q.1.drop no).2, q.2.freed no) := by unfold relOne; rw [← HFr.out]; rfl
          rw [HX.out, e]
          exact HT2.out), HO2⟩
        case measure => simp [intOf]; omega
    · have : k = n := by omega
      subst this
      go_wp2_with fail
      go_end0
      exact ⟨rfl, by have := HT.out; rw [HL.out, List.take_length] at this; exact this, HO.out⟩
set_option maxRecDepth 100000 in
theorem trRoom_any (h : TS w N c bf p s t x d sp gen root height) (hh : height ≤ 12) :
    Calls Tryz.prog 53 #[at0 t] w fun e w' => e = .returned (.bool (decide (2 * height + 3 ≤ _root_.Go.Proofs.YtnmokkkbghlpbaaGreat.free sp.held sp.n))) ∧ Below w.heap.size w w' := by
  have hR := fun (W : World) (hW : Below w.heap.size w W) => spRoom_any (h.sp.below hW)
  have k1 := h.tr.c1
  have k4 := h.tr.c4
  have HK := Lib.hid (fun (W : World) (hW : Below w.heap.size w W) => (show W.cell? ⟨t, 1, none⟩ = _ ∧ W.cell? ⟨t, 4, none⟩ = _ from ⟨(h.below hW).tr.c1, (h.below hW).tr.c4⟩))
  have HR := Lib.hid hR
  obtain ⟨r, hr⟩ : ∃ y, y = _root_.Go.Proofs.YtnmokkkbghlpbaaGreat.free sp.held sp.n := ⟨_, rfl⟩
  rw [← hr] at HR ⊢
  clear hR hr h
  have hw2 := Lib.hid (show IntKind.i64.wrap (2 * (height : Int)) = 2 * (height : Int) from IntWalk.i64_in _ ⟨by omega, by omega⟩)
  have hw3 := Lib.hid (show IntKind.i64.wrap (2 * (height : Int) + 3) = 2 * (height : Int) + 3 from IntWalk.i64_in _ ⟨by omega, by omega⟩)
  clear hh
  go_enter Tryz.func53, Tryz.ntmps53
  go_wp2_with fail
  go_region_held3 (fun w' => w'.cell? ⟨t, 1, none⟩ = some (spAt s) ∧ w'.cell? ⟨t, 4, none⟩ = some (.int .i64 (height : Int)))
    (first | exact ⟨k1, k4⟩ | exact q1.out)
    (first
      | (go_at_call 31; refine (HR.out _ (up_drew (Below.refl _ _))).mono ?_; rintro e w1 ⟨rfl, hb⟩; have q1 := Lib.hid (HK.out _ ((up_drew (Below.refl _ w)).trans hb)); have HB := Lib.hid ((up_drew (Below.refl _ w)).trans hb); clear hb))
  go_wp2_with fail
  go_ret
  refine ⟨?_, HB.out⟩
  show Ending.returned (.bool (decide (IntKind.i64.wrap (IntKind.i64.wrap (2 * (height : Int)) + 3) ≤ (r : Int)))) = _
  rw [hw2.out, hw3.out]
  congr 2
  by_cases e : 2 * height + 3 ≤ r
  · rw [decide_eq_true e, decide_eq_true (by omega)]
  · rw [decide_eq_false e, decide_eq_false (by omega)]
end
end Go.Proofs.YtnmokkkbghlpbaaGreat
/-
  Find, Kid of package node, by contracts.
-/
namespace Go.Proofs.YtnmokkkbghlpbaaGreat
open Go.RowKit
/-- How many of the first k keys are below a key. -/
def belowN (ks : List (List UInt8)) (key : List UInt8) : Nat → Nat
  | 0 => 0
  | k + 1 => belowN ks key k + (if cmpB (ks.getD k []) key < 0 then 1 else 0)
/-- How many of the first k keys are a key, or below it. -/
def uptoN (ks : List (List UInt8)) (key : List UInt8) : Nat → Nat
  | 0 => 0
  | k + 1 => uptoN ks key k + (if cmpB (ks.getD k []) key ≤ 0 then 1 else 0)
/-- Whether one of the first k keys is a key. -/
def hasN (ks : List (List UInt8)) (key : List UInt8) : Nat → Bool
  | 0 => false
  | k + 1 => hasN ks key k || decide (ks.getD k [] = key)
theorem belowN_le (ks : List (List UInt8)) (key : List UInt8) : ∀ k, belowN ks key k ≤ k
  | 0 => Nat.le_refl _
  | k + 1 => by have := belowN_le ks key k; unfold belowN; split <;> omega
theorem uptoN_le (ks : List (List UInt8)) (key : List UInt8) : ∀ k, uptoN ks key k ≤ k
  | 0 => Nat.le_refl _
  | k + 1 => by have := uptoN_le ks key k; unfold uptoN; split <;> omega
theorem cmpB_eq {a b : List UInt8} : cmpB a b = 0 ↔ a = b := ⟨cmpB_zero, fun h => by rw [h]; exact cmpB_self b⟩
set_option maxRecDepth 100000 in
set_option maxHeartbeats 1000000 in
theorem find_any {n : Nd} {K V D : Value} {w : World} {B C : Nat} {v : Value} {key : List UInt8} (hr : NdIs w B K V D n) (hB : B ≤ w.heap.size) (hv : Rd w C v (cellsB key)) (hC : C ≤ w.heap.size) (hs : n.keys.length ≤ 1000000) :
    Calls Tryz.prog 61 #[ndVal n.leaf K V D, v] w fun e w' => e = .returned (.tuple #[.int .i64 (belowN n.keys key n.keys.length : Nat), .bool (hasN n.keys key n.keys.length)]) ∧ Below w.heap.size w w' := by
  obtain ⟨A1, c1, A2, c2, A3, c3, rfl, rfl, rfl⟩ := hr.form
  have hcells := fun (b o : Nat) (he : A1 = some ⟨b, o, none⟩) k (hk : k < n.keys.length) => (show RdAll w B (.slice (some ⟨b, o, none⟩) n.keys.length c1) n.keys by rw [← he]; exact hr.keys).later hB hk
  have haddr := fun (h : 0 < n.keys.length) => hr.keys.addr h
  have hkey := fun (W : World) (hW : Below w.heap.size w W) => hv.below (hW.mono hC)
  have hle := fun k => belowN_le n.keys key k
  obtain ⟨lf, hlf⟩ : ∃ x, x = n.leaf := ⟨_, rfl⟩
  obtain ⟨a, ha⟩ : ∃ x, x = n.keys.length := ⟨_, rfl⟩
  rw [← ha] at hs hcells haddr ⊢
  rw [← hlf]
  have hb0 : Below w.heap.size w (w.alloc (.cells #[.bool lf, .slice A1 a c1, .slice A2 n.vals.length c2, .slice A3 n.kids.length c3] 126)) := (Below.refl _ _).alloc (Nat.le_refl _) _
  have hbox := NdBox.made w lf (.slice A1 a c1) (.slice A2 n.vals.length c2) (.slice A3 n.kids.length c3)
  have HC := Lib.hid hcells
  have HA := Lib.hid haddr
  have HK := Lib.hid hkey
  have HL := Lib.hid hle
  have H0 := Lib.hid hb0
  obtain ⟨x0, x1, x2, x3⟩ := hbox
  clear hr hB hv hC hcells haddr hkey hle hb0 hlf ha
  go_enter Tryz.func61, Tryz.ntmps61
  go_wp2_with fail
  clear x0 x1 x2 x3
  go_loopw [6, 7, 14] (fun bv tv iv wr => ∃ k : Nat, k ≤ a ∧ iv = .int .i64 (k : Int) ∧ bv = .int .i64 (belowN n.keys key k : Nat) ∧ tv = .bool (hasN n.keys key k) ∧ Hid (Below w.heap.size w wr)) (fun _ _ iv _ => a - (intOf iv).toNat)
  case atStart => exact ⟨0, Nat.zero_le _, rfl, rfl, rfl, H0⟩
  case round =>
    obtain ⟨k, hk, rfl, rfl, rfl, HI⟩ := hrel
    by_cases hlt : k < a
    · obtain ⟨bk, ok, rfl, _⟩ := HA.out (by omega)
      obtain ⟨A', m, c', hm, hmc, hmx, hcl⟩ := HC.out bk ok rfl k hlt
      have hck := (hcl wr HI.out).1
      have hcmp := bcmp_any (hcl wr HI.out).2.1 (HK.out wr HI.out)
      have hb := HL.out k
      have hst : belowN n.keys key (k + 1) = belowN n.keys key k + (if cmpB (n.keys.getD k []) key < 0 then 1 else 0) := rfl
      have hsh : hasN n.keys key (k + 1) = (hasN n.keys key k || decide (n.keys.getD k [] = key)) := rfl
      obtain ⟨x, hx⟩ : ∃ x, x = cmpB (n.keys.getD k []) key := ⟨_, rfl⟩
      have he : (x = 0 ↔ n.keys.getD k [] = key) := by rw [hx]; exact cmpB_eq
      rw [← hx] at hcmp hst
      obtain ⟨p, hp⟩ : ∃ x, x = belowN n.keys key k := ⟨_, rfl⟩
      obtain ⟨q, hq⟩ : ∃ x, x = hasN n.keys key k := ⟨_, rfl⟩
      rw [← hp] at hb hst ⊢
      rw [← hq] at hsh ⊢
      have HCm := Lib.hid hcmp
      have Hst := Lib.hid hst
      have Hsh := Lib.hid hsh
      have He := Lib.hid he
      clear hm hcl hcmp hst hsh hx he hp hq
      by_cases h1 : x < 0
      · go_wp2_with (go_at_call 88; refine HCm.out.mono ?_; rintro e w3 ⟨rfl, rfl⟩)
        go_roundw
        case rel =>
          refine ⟨k + 1, by omega, by go_num, ?_, ?_, HI⟩
          · rw [Hst.out, if_pos h1]; go_num
          · rw [Hsh.out, decide_eq_false (fun e => by have := He.out.2 e; omega), Bool.or_false]
        case measure => simp [intOf]; omega
      · by_cases h2 : x = 0
        · have H2 := Lib.hid h2
          have t1 : decide (x < 0) = false := by simp; omega
          have t2 : (x == 0) = true := by rw [h2]; rfl
          clear h1 h2
          go_wp2_with (go_at_call 88; refine HCm.out.mono ?_; rintro e w3 ⟨rfl, rfl⟩)
          go_roundw
          case rel =>
            refine ⟨k + 1, by omega, by go_num, ?_, ?_, HI⟩
            · rw [Hst.out, if_neg (by have := H2.out; omega)]; rfl
            · rw [Hsh.out, decide_eq_true (He.out.1 H2.out), Bool.or_true]
          case measure => simp [intOf]; omega
        · have H2 := Lib.hid h2
          have H1 := Lib.hid h1
          have t1 : decide (x < 0) = false := by simp; omega
          have t2 : (x == 0) = false := by rw [beq_eq_false_iff_ne]; exact h2
          clear h1 h2
          go_wp2_with (go_at_call 88; refine HCm.out.mono ?_; rintro e w3 ⟨rfl, rfl⟩)
          go_roundw
          case rel =>
            refine ⟨k + 1, by omega, by go_num, ?_, ?_, HI⟩
            · rw [Hst.out, if_neg (by have := H1.out; omega)]; rfl
            · rw [Hsh.out, decide_eq_false (fun e => H2.out (He.out.2 e)), Bool.or_false]
          case measure => simp [intOf]; omega
    · have h5 : a ≤ k := by omega
      have hk2 : k = a := by omega
      have Hk := Lib.hid hk2
      clear hlt hk2
      go_wp2_with fail
      go_ret2
      exact ⟨by rw [Hk.out]; rfl, HI.out⟩
end Go.Proofs.YtnmokkkbghlpbaaGreat
/-
  append of rows of texts onto one's own; a node behind all its rows.
-/
namespace Go.Proofs.YtnmokkkbghlpbaaGreat
open Go.RowKit
theorem wpList_append_T {w : World} {ops : Array Oper} {rest : List Oper} {o : Oper} {a : Act} {Q : Exit → Act → World → Prop} {B0 base : Nat} (hgd : o.guard = none) (s x : Operand)
    (ho : o.op = .call { callee := .builtin .append, args := #[s, x], argTypes := #[56, 56] }) (hty : o.type = 56)
    (v : Value) (ls : List (List UInt8)) (hs : a.eval s = v) (hown : OwnT w B0 base v ls) (y : Value) (ms : List (List UInt8)) (hx : a.eval x = y) (hr : RdT w B0 base y ms)
    (hbound : ls.length + ms.length ≤ 1000000000) (hbase : base ≤ w.heap.size) (hB : B0 ≤ base)
    (h : ∀ A n c w', OwnT w' B0 base (.slice A n c) (ls ++ ms) → Below base w w' → w.grownBy w' v.ownBlock → wpList Tryz.prog ops Q rest (a.put o.dst (.slice A n c)) w') : wpList Tryz.prog ops Q (o :: rest) a w := by
  refine wpList_plain hgd fun K hK => ?_
  obtain ⟨A, n, c, w', hrun, h1, h2, h3, _⟩ := hown.append hr hbound hbase hB
  unfold Oper.wp execOp
  simp only [ho, hty, resolve, invoke, builtin, Sem.run_bind, Sem.run_pure, Result.andThen_ok, List.map_toArray, List.map_cons, List.map_nil, hs, hx, hrun]
  exact hK _ _ (h A n c w' h1 h3 h2)
/-- Behind the append: all is there. -/
structure FewZ (w0 w : World) (lf : Bool) (K V D uK uV uD : Value) (n : Nd) : Prop where
  box : NdBox w w0.heap.size lf K V D
  out : w.heap[w0.heap.size + 1]? = some (.cells #[.bool false, .slice none 0 0, .slice none 0 0, .slice none 0 0] 126 (0, 0))
  new : NdNew w (w0.heap.size + 2) uK uV uD n
  below : Below w0.heap.size w0 w
theorem getD_mem {α : Type} (l : List α) (d : α) {j : Nat} (h : j < l.length) : l.getD j d ∈ l := by
  simp [List.getD, h]
end Go.Proofs.YtnmokkkbghlpbaaGreat
/-
  slices.Grow of nothing, slices.Concat of the library at rows of texts and of whole numbers, by contracts.
-/
namespace Go.Proofs.YtnmokkkbghlpbaaGreat
open Go.RowKit
theorem wpList_append_run {P : Program} {w w' : World} {ops : Array Oper} {rest : List Oper} {o : Oper} {a : Act} {Q : Exit → Act → World → Prop} {t t2 : TypeId} (hgd : o.guard = none) (s x : Operand)
    (ho : o.op = .call { callee := .builtin .append, args := #[s, x], argTypes := #[t, t2] }) (v y : Value) {r : Value} (hs : a.eval s = v) (hx : a.eval x = y) (hrun : (Builtin.append_ #[t, t2] o.type #[v, y]).run P w = .ok r w')
    (h : wpList P ops Q rest (a.put o.dst r) w') : wpList P ops Q (o :: rest) a w := by
  refine wpList_plain hgd fun K hK => ?_
  unfold Oper.wp execOp
  simp only [ho, resolve, invoke, builtin, Sem.run_bind, Sem.run_pure, Result.andThen_ok, List.map_toArray, List.map_cons, List.map_nil, hs, hx, hrun]
  exact hK _ _ h
theorem flat_more {α : Type} (lss : List (List α)) {k : Nat} (h : k < lss.length) : (lss.take (k + 1)).flatten = (lss.take k).flatten ++ lss.getD k [] := by
  rw [← take_more lss [] h]; simp
theorem flat_le {α : Type} (lss : List (List α)) (k : Nat) : (lss.take k).flatten.length ≤ lss.flatten.length := by
  have h : lss.flatten = (lss.take k).flatten ++ (lss.drop k).flatten := by rw [← List.flatten_append, List.take_append_drop]
  rw [h, List.length_append]; omega
theorem Rd.formI {w : World} {B : Nat} {v : Value} {l : List Int} (h : Rd w B v (cellsI l)) : ∃ A c, v = .slice A l.length c ∧ Rd w B (.slice A l.length c) (cellsI l) := by
  have h0 := h
  obtain ⟨A, c, rfl, _⟩ := h
  rw [cellsI_length] at *
  exact ⟨A, c, rfl, h0⟩
set_option maxRecDepth 100000 in
set_option maxHeartbeats 1000000 in
theorem growT_nil (n : Nat) (w : World) (hn : n ≤ 1000000) : Calls Tryz.prog 107 #[.slice none 0 0, .int .i64 (n : Int)] w fun e w' => ∃ A c, e = .returned (.slice A 0 c) ∧ Mine w' w.heap.size 31 (.slice A 0 c) [] ∧ Below w.heap.size w w' := by
  obtain ⟨i, hi, hz0, hz1, hz2⟩ := info_parts info_row
  have h3 : IntKind.i64.wrap ((n : Int) - 0) = (n : Int) := by rw [Int.sub_zero]; exact IntWalk.i64_in _ (by omega)
  by_cases h0 : 0 < n
  · have h := Lib.run_append_grow_zeros (P := Tryz.prog) w 56 3 56 31 i _ .i64 .i64 Tryz.underlying56 Tryz.underlying3 hi hz0 none 0 0 [] (run_firstCells_none w.drew i.size 0 0 0) n h0 (by omega) (by omega) (by omega) (by rw [hz2]; omega) (by rw [Nat.zero_add]; exact growslice_fits h0 (by rw [hz2]; omega))
    rw [Nat.zero_add] at h
    have hG := grownCap_ge w n 0 31
    have hG2 := grownCap_le_maxLen w n 0 31 (by unfold maxLen; omega)
    obtain ⟨G, hGe⟩ : ∃ G, G = grownCap w n 0 31 := ⟨_, rfl⟩
    rw [← hGe] at h hG hG2
    obtain ⟨C, hC⟩ : ∃ C, C = ([] : List Value).toArray ++ Builtin.zeroCells (.slice none 0 0 : Value).cells n ++ Builtin.zeroCells (.slice none 0 0 : Value).cells (G - n) := ⟨_, rfl⟩
    rw [← hC] at h
    have hCs : C.size = G * 1 := by
      have z : (.slice none 0 0 : Value).cells.size = 1 := rfl
      rw [hC]
      simp [Builtin.zeroCells, z]
      omega
    have hm := World.ownsRow_made (base := w.heap.size) (e := 31) (size := 1) w.drew C G (Nat.le_refl _) hG2 hCs
    have HM := Lib.hid hm
    have hG3 : G ≤ 9223372036854775807 := by unfold maxLen at hG2; exact hG2
    have Hh := Lib.hid h
    clear hGe hC hCs hm hG2 hi hz0 hz1 hz2 h
    go_enter Tryz.func107, Tryz.ntmps107
    go_wp2_with (at_builtin; refine wpList_append_run rfl (.tmp 20) (.tmp 21) rfl _ _ rfl rfl Hh.out ?_)
    go_ret
    exact ⟨_, _, rfl, HM.out, ((Below.refl _ _).drew).alloc (Nat.le_refl _) _⟩
  · obtain rfl : n = 0 := by omega
    clear hi hz0 hz1 hz2
    go_enter Tryz.func107, Tryz.ntmps107
    go_wp2
    go_ret
    exact ⟨_, _, rfl, Mine.nil _ _ _, Below.refl _ _⟩
set_option maxRecDepth 100000 in
set_option maxHeartbeats 1000000 in
theorem growI_nil (n : Nat) (w : World) (hn : n ≤ 1000000) : Calls Tryz.prog 138 #[.slice none 0 0, .int .i64 (n : Int)] w fun e w' => ∃ A c, e = .returned (.slice A 0 c) ∧ Mine w' w.heap.size 3 (.slice A 0 c) [] ∧ Below w.heap.size w w' := by
  obtain ⟨i, hi, hz0, hz1, hz2⟩ := info_parts info_int
  have h3 : IntKind.i64.wrap ((n : Int) - 0) = (n : Int) := by rw [Int.sub_zero]; exact IntWalk.i64_in _ (by omega)
  by_cases h0 : 0 < n
  · have h := Lib.run_append_grow_zeros (P := Tryz.prog) w 54 3 54 3 i _ .i64 .i64 Tryz.underlying54 Tryz.underlying3 hi hz0 none 0 0 [] (run_firstCells_none w.drew i.size 0 0 0) n h0 (by omega) (by omega) (by omega) (by rw [hz2]; omega) (by rw [Nat.zero_add]; exact growslice_fits h0 (by rw [hz2]; omega))
    rw [Nat.zero_add] at h
    have hG := grownCap_ge w n 0 3
    have hG2 := grownCap_le_maxLen w n 0 3 (by unfold maxLen; omega)
    obtain ⟨G, hGe⟩ : ∃ G, G = grownCap w n 0 3 := ⟨_, rfl⟩
    rw [← hGe] at h hG hG2
    obtain ⟨C, hC⟩ : ∃ C, C = ([] : List Value).toArray ++ Builtin.zeroCells (.int .i64 0 : Value).cells n ++ Builtin.zeroCells (.int .i64 0 : Value).cells (G - n) := ⟨_, rfl⟩
    rw [← hC] at h
    have hCs : C.size = G * 1 := by
      have z : (.int .i64 0 : Value).cells.size = 1 := rfl
      rw [hC]
      simp [Builtin.zeroCells, z]
      omega
    have hm := World.ownsRow_made (base := w.heap.size) (e := 3) (size := 1) w.drew C G (Nat.le_refl _) hG2 hCs
    have HM := Lib.hid hm
    have hG3 : G ≤ 9223372036854775807 := by unfold maxLen at hG2; exact hG2
    have Hh := Lib.hid h
    clear hGe hC hCs hm hG2 hi hz0 hz1 hz2 h
    go_enter Tryz.func138, Tryz.ntmps138
    go_wp2_with (at_builtin; refine wpList_append_run rfl (.tmp 20) (.tmp 21) rfl _ _ rfl rfl Hh.out ?_)
    go_ret
    exact ⟨_, _, rfl, HM.out, ((Below.refl _ _).drew).alloc (Nat.le_refl _) _⟩
  · obtain rfl : n = 0 := by omega
    clear hi hz0 hz1 hz2
    go_enter Tryz.func138, Tryz.ntmps138
    go_wp2
    go_ret
    exact ⟨_, _, rfl, Mine.nil _ _ _, Below.refl _ _⟩
/-- The slice x has, in w, slices that have the rows lss. -/
def RdRows (w : World) (B : Nat) (x : Value) (lss : List (List (List UInt8))) : Prop :=
  ∃ vs, Rd w B x vs ∧ vs.length = lss.length ∧ ∀ (k : Nat) (u : Value) (l : List (List UInt8)), vs[k]? = some u → lss[k]? = some l → RdAll w B u l
theorem RdRows.cell {w : World} {B : Nat} {A : Option Addr} {n c : Nat} {lss : List (List (List UInt8))} (h : RdRows w B (.slice A n c) lss) {k : Nat} (hk : k < n) :
    ∃ b o u, A = some ⟨b, o, none⟩ ∧ b < B ∧ w.cell? ⟨b, o + k, none⟩ = some u ∧ (fun u l => RdAll w B u l) u (lss.getD k []) := by
  obtain ⟨vs, ⟨A1, c1, e, g1, g2, g3, g4⟩, hl, hel⟩ := h
  injection e with e1 e2 e3
  subst e1 e2 e3
  obtain ⟨b, o, rfl, hb, hc⟩ := g4 (by omega)
  have h1 : vs[k]? = some vs[k] := List.getElem?_eq_getElem hk
  have h2 : lss[k]? = some (lss.getD k []) := by simp [List.getD, show k < lss.length by omega]
  exact ⟨b, o, _, rfl, hb, hc k _ h1, hel k _ _ h1 h2⟩
theorem RdRows.len {w : World} {B : Nat} {A : Option Addr} {n c : Nat} {lss : List (List (List UInt8))} (h : RdRows w B (.slice A n c) lss) : n = lss.length ∧ n ≤ c ∧ c ≤ 9223372036854775807 := by
  obtain ⟨vs, ⟨A1, c1, e, g1, g2, g3, g4⟩, hl, hel⟩ := h
  injection e with e1 e2 e3
  unfold maxLen at g2
  omega
theorem RdRows.keep {w w' : World} {B : Nat} {x : Value} {lss : List (List (List UInt8))} (h : RdRows w B x lss) (hk : ∀ p : Addr, p.block < B → w'.cell? p = w.cell? p) : RdRows w' B x lss := by
  obtain ⟨vs, h1, h2, h3⟩ := h
  exact ⟨vs, h1.keep hk, h2, fun k u l a b => (h3 k u l a b).keep hk⟩
theorem RdRows.below {w w' : World} {B : Nat} {x : Value} {lss : List (List (List UInt8))} (h : RdRows w B x lss) (hb : Below B w w') : RdRows w' B x lss := h.keep fun _ hp => hb.cell hp
theorem RdRows.lit (w : World) (e : TypeId) (us : List Value) (lss : List (List (List UInt8))) (hl : us.length = lss.length) (hm : us.length ≤ 100) (h : ∀ (k : Nat) (u : Value) (l : List (List UInt8)), us[k]? = some u → lss[k]? = some l → RdAll w w.heap.size u l) :
    RdRows (w.alloc (.cells us.toArray e)) (w.heap.size + 1) (.slice (some ⟨w.heap.size, 0, none⟩) us.length us.length) lss := by
  refine ⟨us, ⟨_, _, rfl, Nat.le_refl _, by unfold maxLen; omega, (fun h => by cases h), fun _ => ⟨w.heap.size, 0, rfl, Nat.lt_succ_self _, fun j u hu => ?_⟩⟩, hl, fun k u l a b => ((h k u l a b).alloc (Nat.le_refl _) _).more (Nat.le_succ _)⟩
  rw [Nat.zero_add, World.cell?_alloc_mark]
  simpa using hu
theorem RdRows.lit1 (w : World) (e : TypeId) {a : Value} {la : List (List UInt8)} (ha : (fun u l => RdAll w w.heap.size u l) a la) : RdRows (w.alloc (.cells #[a] e)) (w.heap.size + 1) (.slice (some ⟨w.heap.size, 0, none⟩) 1 1) [la] := by
  refine RdRows.lit w e [a] [la] rfl (by simp) fun k u m hu hm => ?_
  match k, hu, hm with
  | 0, hu, hm => simp at hu hm; subst hu hm; exact ha
theorem RdRows.lit2 (w : World) (e : TypeId) {a b : Value} {la lb : List (List UInt8)} (ha : (fun u l => RdAll w w.heap.size u l) a la) (hb : (fun u l => RdAll w w.heap.size u l) b lb) : RdRows (w.alloc (.cells #[a, b] e)) (w.heap.size + 1) (.slice (some ⟨w.heap.size, 0, none⟩) 2 2) [la, lb] := by
  refine RdRows.lit w e [a, b] [la, lb] rfl (by simp) fun k u m hu hm => ?_
  match k, hu, hm with
  | 0, hu, hm => simp at hu hm; subst hu hm; exact ha
  | 1, hu, hm => simp at hu hm; subst hu hm; exact hb
theorem RdRows.lit3 (w : World) (e : TypeId) {a b c : Value} {la lb lc : List (List UInt8)} (ha : (fun u l => RdAll w w.heap.size u l) a la) (hb : (fun u l => RdAll w w.heap.size u l) b lb) (hc : (fun u l => RdAll w w.heap.size u l) c lc) : RdRows (w.alloc (.cells #[a, b, c] e)) (w.heap.size + 1) (.slice (some ⟨w.heap.size, 0, none⟩) 3 3) [la, lb, lc] := by
  refine RdRows.lit w e [a, b, c] [la, lb, lc] rfl (by simp) fun k u m hu hm => ?_
  match k, hu, hm with
  | 0, hu, hm => simp at hu hm; subst hu hm; exact ha
  | 1, hu, hm => simp at hu hm; subst hu hm; exact hb
  | 2, hu, hm => simp at hu hm; subst hu hm; exact hc
/-- The slice x has, in w, slices that have the rows lss. -/
def RdRowsI (w : World) (B : Nat) (x : Value) (lss : List (List (Int))) : Prop :=
  ∃ vs, Rd w B x vs ∧ vs.length = lss.length ∧ ∀ (k : Nat) (u : Value) (l : List (Int)), vs[k]? = some u → lss[k]? = some l → Rd w B u (cellsI l)
theorem RdRowsI.cell {w : World} {B : Nat} {A : Option Addr} {n c : Nat} {lss : List (List (Int))} (h : RdRowsI w B (.slice A n c) lss) {k : Nat} (hk : k < n) :
    ∃ b o u, A = some ⟨b, o, none⟩ ∧ b < B ∧ w.cell? ⟨b, o + k, none⟩ = some u ∧ (fun u l => Rd w B u (cellsI l)) u (lss.getD k []) := by
  obtain ⟨vs, ⟨A1, c1, e, g1, g2, g3, g4⟩, hl, hel⟩ := h
  injection e with e1 e2 e3
  subst e1 e2 e3
  obtain ⟨b, o, rfl, hb, hc⟩ := g4 (by omega)
  have h1 : vs[k]? = some vs[k] := List.getElem?_eq_getElem hk
  have h2 : lss[k]? = some (lss.getD k []) := by simp [List.getD, show k < lss.length by omega]
  exact ⟨b, o, _, rfl, hb, hc k _ h1, hel k _ _ h1 h2⟩
theorem RdRowsI.len {w : World} {B : Nat} {A : Option Addr} {n c : Nat} {lss : List (List (Int))} (h : RdRowsI w B (.slice A n c) lss) : n = lss.length ∧ n ≤ c ∧ c ≤ 9223372036854775807 := by
  obtain ⟨vs, ⟨A1, c1, e, g1, g2, g3, g4⟩, hl, hel⟩ := h
  injection e with e1 e2 e3
  unfold maxLen at g2
  omega
theorem RdRowsI.keep {w w' : World} {B : Nat} {x : Value} {lss : List (List (Int))} (h : RdRowsI w B x lss) (hk : ∀ p : Addr, p.block < B → w'.cell? p = w.cell? p) : RdRowsI w' B x lss := by
  obtain ⟨vs, h1, h2, h3⟩ := h
  exact ⟨vs, h1.keep hk, h2, fun k u l a b => (h3 k u l a b).keep hk⟩
theorem RdRowsI.below {w w' : World} {B : Nat} {x : Value} {lss : List (List (Int))} (h : RdRowsI w B x lss) (hb : Below B w w') : RdRowsI w' B x lss := h.keep fun _ hp => hb.cell hp
theorem RdRowsI.lit (w : World) (e : TypeId) (us : List Value) (lss : List (List (Int))) (hl : us.length = lss.length) (hm : us.length ≤ 100) (h : ∀ (k : Nat) (u : Value) (l : List (Int)), us[k]? = some u → lss[k]? = some l → Rd w w.heap.size u (cellsI l)) :
    RdRowsI (w.alloc (.cells us.toArray e)) (w.heap.size + 1) (.slice (some ⟨w.heap.size, 0, none⟩) us.length us.length) lss := by
  refine ⟨us, ⟨_, _, rfl, Nat.le_refl _, by unfold maxLen; omega, (fun h => by cases h), fun _ => ⟨w.heap.size, 0, rfl, Nat.lt_succ_self _, fun j u hu => ?_⟩⟩, hl, fun k u l a b => ((h k u l a b).alloc (Nat.le_refl _) _).more (Nat.le_succ _)⟩
  rw [Nat.zero_add, World.cell?_alloc_mark]
  simpa using hu
theorem RdRowsI.lit1 (w : World) (e : TypeId) {a : Value} {la : List (Int)} (ha : (fun u l => Rd w w.heap.size u (cellsI l)) a la) : RdRowsI (w.alloc (.cells #[a] e)) (w.heap.size + 1) (.slice (some ⟨w.heap.size, 0, none⟩) 1 1) [la] := by
  refine RdRowsI.lit w e [a] [la] rfl (by simp) fun k u m hu hm => ?_
  match k, hu, hm with
  | 0, hu, hm => simp at hu hm; subst hu hm; exact ha
theorem RdRowsI.lit2 (w : World) (e : TypeId) {a b : Value} {la lb : List (Int)} (ha : (fun u l => Rd w w.heap.size u (cellsI l)) a la) (hb : (fun u l => Rd w w.heap.size u (cellsI l)) b lb) : RdRowsI (w.alloc (.cells #[a, b] e)) (w.heap.size + 1) (.slice (some ⟨w.heap.size, 0, none⟩) 2 2) [la, lb] := by
  refine RdRowsI.lit w e [a, b] [la, lb] rfl (by simp) fun k u m hu hm => ?_
  match k, hu, hm with
  | 0, hu, hm => simp at hu hm; subst hu hm; exact ha
  | 1, hu, hm => simp at hu hm; subst hu hm; exact hb
theorem RdRowsI.lit3 (w : World) (e : TypeId) {a b c : Value} {la lb lc : List (Int)} (ha : (fun u l => Rd w w.heap.size u (cellsI l)) a la) (hb : (fun u l => Rd w w.heap.size u (cellsI l)) b lb) (hc : (fun u l => Rd w w.heap.size u (cellsI l)) c lc) : RdRowsI (w.alloc (.cells #[a, b, c] e)) (w.heap.size + 1) (.slice (some ⟨w.heap.size, 0, none⟩) 3 3) [la, lb, lc] := by
  refine RdRowsI.lit w e [a, b, c] [la, lb, lc] rfl (by simp) fun k u m hu hm => ?_
  match k, hu, hm with
  | 0, hu, hm => simp at hu hm; subst hu hm; exact ha
  | 1, hu, hm => simp at hu hm; subst hu hm; exact hb
  | 2, hu, hm => simp at hu hm; subst hu hm; exact hc
theorem RdT.kept {w w' : World} {B0 base : Nat} {x : Value} {ms : List (List UInt8)} (h : RdT w B0 base x ms) (hb : Below w.heap.size w w') (hB : B0 ≤ base) : RdT w' B0 base x ms := by
  obtain ⟨vs, h1, h2, h3⟩ := h
  exact ⟨vs, (h1.below hb).more hb.size, h2, fun k u l a b => (h3 k u l a b).keep (Fr.below hb) (RowB.none _ _) hB⟩
theorem RdT.form {w : World} {B0 base : Nat} {x : Value} {ms : List (List UInt8)} (h : RdT w B0 base x ms) : ∃ A c, x = .slice A ms.length c ∧ RdT w B0 base (.slice A ms.length c) ms := by
  have h0 := h
  obtain ⟨vs, ⟨A, c, rfl, _⟩, hl, _⟩ := h
  rw [hl] at h0 ⊢
  exact ⟨A, c, rfl, h0⟩
theorem wpList_append_T2 {w : World} {ops : Array Oper} {rest : List Oper} {o : Oper} {a : Act} {Q : Exit → Act → World → Prop} {B0 base : Nat} (hgd : o.guard = none) (s x : Operand)
    (ho : o.op = .call { callee := .builtin .append, args := #[s, x], argTypes := #[56, 56] }) (hty : o.type = 56)
    (v : Value) (ls : List (List UInt8)) (hs : a.eval s = v) (hown : OwnT w B0 base v ls) (y : Value) (ms : List (List UInt8)) (hx : a.eval x = y) (hr : RdT w B0 base y ms)
    (hbound : ls.length + ms.length ≤ 1000000000) (hbase : base ≤ w.heap.size) (hB : B0 ≤ base)
    (h : ∀ A n c w', OwnT w' B0 base (.slice A n c) (ls ++ ms) → w.grownBy w' v.ownBlock → ((Value.slice A n c).ownBlock = v.ownBlock ∨ (Value.slice A n c).ownBlock = some w.heap.size) → wpList Tryz.prog ops Q rest (a.put o.dst (.slice A n c)) w') : wpList Tryz.prog ops Q (o :: rest) a w := by
  refine wpList_plain hgd fun K hK => ?_
  obtain ⟨A, n, c, w', hrun, h1, h2, h3, h4⟩ := hown.append hr hbound hbase hB
  unfold Oper.wp execOp
  simp only [ho, hty, resolve, invoke, builtin, Sem.run_bind, Sem.run_pure, Result.andThen_ok, List.map_toArray, List.map_cons, List.map_nil, hs, hx, hrun]
  exact hK _ _ (h A n c w' h1 h2 h4)
/-- The slice x has, in w, slices that have the rows lss, their texts below B0 or from base on. -/
def RdRowsT (w : World) (B0 base : Nat) (x : Value) (lss : List (List (List UInt8))) : Prop :=
  ∃ vs, Rd w w.heap.size x vs ∧ vs.length = lss.length ∧ ∀ (k : Nat) (u : Value) (l : List (List UInt8)), vs[k]? = some u → lss[k]? = some l → RdT w B0 base u l
theorem RdRowsT.kept {w w' : World} {B0 base : Nat} {x : Value} {lss : List (List (List UInt8))} (h : RdRowsT w B0 base x lss) (hb : Below w.heap.size w w') (hB : B0 ≤ base) : RdRowsT w' B0 base x lss := by
  obtain ⟨vs, h1, h2, h3⟩ := h
  exact ⟨vs, (h1.below hb).more hb.size, h2, fun k u l a b => (h3 k u l a b).kept hb hB⟩
theorem RdRowsT.cell {w : World} {B0 base : Nat} {A : Option Addr} {n c : Nat} {lss : List (List (List UInt8))} (h : RdRowsT w B0 base (.slice A n c) lss) {k : Nat} (hk : k < n) :
    ∃ b o u, A = some ⟨b, o, none⟩ ∧ b < w.heap.size ∧ w.cell? ⟨b, o + k, none⟩ = some u ∧ RdT w B0 base u (lss.getD k []) := by
  obtain ⟨vs, ⟨A1, c1, e, g1, g2, g3, g4⟩, hl, hel⟩ := h
  injection e with e1 e2 e3
  subst e1 e2 e3
  obtain ⟨b, o, rfl, hb, hc⟩ := g4 (by omega)
  have h1 : vs[k]? = some vs[k] := List.getElem?_eq_getElem hk
  have h2 : lss[k]? = some (lss.getD k []) := by simp [List.getD, show k < lss.length by omega]
  exact ⟨b, o, _, rfl, hb, hc k _ h1, hel k _ _ h1 h2⟩
theorem RdRowsT.len {w : World} {B0 base : Nat} {A : Option Addr} {n c : Nat} {lss : List (List (List UInt8))} (h : RdRowsT w B0 base (.slice A n c) lss) : n = lss.length ∧ n ≤ c ∧ c ≤ 9223372036854775807 := by
  obtain ⟨vs, ⟨A1, c1, e, g1, g2, g3, g4⟩, hl, hel⟩ := h
  injection e with e1 e2 e3
  unfold maxLen at g2
  omega
theorem RdRowsT.lit {B0 base : Nat} (hB : B0 ≤ base) (w : World) (e : TypeId) (us : List Value) (lss : List (List (List UInt8))) (hl : us.length = lss.length) (hm : us.length ≤ 100) (h : ∀ (k : Nat) (u : Value) (l : List (List UInt8)), us[k]? = some u → lss[k]? = some l → RdT w B0 base u l) :
    RdRowsT (w.alloc (.cells us.toArray e)) B0 base (.slice (some ⟨w.heap.size, 0, none⟩) us.length us.length) lss := by
  refine ⟨us, ⟨_, _, rfl, Nat.le_refl _, by unfold maxLen; omega, (fun h => by cases h), fun _ => ⟨w.heap.size, 0, rfl, by simp, fun j u hu => ?_⟩⟩, hl, fun k u l a b => (h k u l a b).kept ((Below.refl _ _).alloc (Nat.le_refl _) _) hB⟩
  rw [Nat.zero_add, World.cell?_alloc_mark]
  simpa using hu
theorem RdRowsT.lit2 {B0 base : Nat} (hB : B0 ≤ base) (w : World) (e : TypeId) {a b : Value} {la lb : List (List UInt8)} (ha : RdT w B0 base a la) (hb : RdT w B0 base b lb) : RdRowsT (w.alloc (.cells #[a, b] e)) B0 base (.slice (some ⟨w.heap.size, 0, none⟩) 2 2) [la, lb] := by
  refine RdRowsT.lit hB w e [a, b] [la, lb] rfl (by simp) fun k u m hu hm => ?_
  match k, hu, hm with
  | 0, hu, hm => simp at hu hm; subst hu hm; exact ha
  | 1, hu, hm => simp at hu hm; subst hu hm; exact hb
theorem RdRowsT.lit3 {B0 base : Nat} (hB : B0 ≤ base) (w : World) (e : TypeId) {a b c : Value} {la lb lc : List (List UInt8)} (ha : RdT w B0 base a la) (hb : RdT w B0 base b lb) (hc : RdT w B0 base c lc) : RdRowsT (w.alloc (.cells #[a, b, c] e)) B0 base (.slice (some ⟨w.heap.size, 0, none⟩) 3 3) [la, lb, lc] := by
  refine RdRowsT.lit hB w e [a, b, c] [la, lb, lc] rfl (by simp) fun k u m hu hm => ?_
  match k, hu, hm with
  | 0, hu, hm => simp at hu hm; subst hu hm; exact ha
  | 1, hu, hm => simp at hu hm; subst hu hm; exact hb
  | 2, hu, hm => simp at hu hm; subst hu hm; exact hc
set_option maxRecDepth 100000 in
set_option maxHeartbeats 1000000 in
theorem concatT_any (A : Option Addr) (n c : Nat) (lss : List (List (List UInt8))) (w : World) (B0 base : Nat) (hr : RdRowsT w B0 base (.slice A n c) lss) (hbs : base ≤ w.heap.size) (hB : B0 ≤ base) (hn : n ≤ 100) (hs : lss.flatten.length ≤ 1000000) :
    Calls Tryz.prog 82 #[.slice A n c] w fun e w' => ∃ v, e = .returned v ∧ OwnT w' B0 base v lss.flatten ∧ Below w.heap.size w w' := by
  obtain ⟨hl, hnc, hcm⟩ := hr.len
  have hmore := fun k (h : k < n) => flat_more lss (k := k) (by omega)
  have hle := fun k => flat_le lss k
  have hall : (lss.take n).flatten = lss.flatten := by rw [hl, List.take_length]
  have HM := Lib.hid hmore
  have HL := Lib.hid hle
  have HA := Lib.hid hall
  have HS := Lib.hid hs
  clear hl hmore hle hall hs
  go_enter Tryz.func82, Tryz.ntmps82
  go_wp2_with fail
  go_loop [3, 11] (fun sv iv => ∃ k : Nat, k ≤ n ∧ iv = .int .i64 (k : Int) ∧ sv = .int .i64 ((lss.take k).flatten.length : Nat)) (fun _ iv => n - (intOf iv).toNat)
  case atStart => exact ⟨0, Nat.zero_le _, rfl, rfl⟩
  case round =>
    obtain ⟨k, hk, rfl, rfl⟩ := hrel
    by_cases hlt : k < n
    · obtain ⟨b, o, u, rfl, hb, hc, hu⟩ := hr.cell hlt
      obtain ⟨A2, c2, rfl, hu⟩ := hu.form
      have hmo := HM.out k hlt
      have hle1 := HL.out (k + 1)
      rw [hmo, List.length_append] at hle1
      have hs := HS.out
      obtain ⟨p, hp⟩ : ∃ p, p = (lss.take k).flatten.length := ⟨_, rfl⟩
      obtain ⟨q, hq⟩ : ∃ p, p = (lss.getD k []).length := ⟨_, rfl⟩
      rw [← hp, ← hq] at hle1
      rw [← hp]
      rw [← hq] at hc
      have hpq : p + q ≤ 1000000 := by omega
      have Hst := Lib.hid (show (lss.take (k + 1)).flatten.length = p + q by rw [hmo, List.length_append, hp, hq])
      clear hmo hle1 hs hp hq
      go_wp2_with fail
      go_round
      case rel => exact ⟨k + 1, by omega, by go_num, by rw [Hst.out]; go_num⟩
      case measure => simp [intOf]; omega
    · have h5 : n ≤ k := by omega
      have Hk := Lib.hid (show k = n by omega)
      have hle1 := HL.out k
      have hs := HS.out
      obtain ⟨p, hp⟩ : ∃ p, p = (lss.take k).flatten.length := ⟨_, rfl⟩
      rw [← hp] at hle1 ⊢
      have hp2 : p ≤ 1000000 := by omega
      clear hlt hp hle1 hs
      go_wp2_with (go_at_call 107; refine (growT_nil p w hp2).mono ?_; rintro e w1 ⟨A1, c1, rfl, hm, hb1⟩; have Hb1 := Lib.hid hb1; have Hm1 := Lib.hid hm; clear hb1 hm)
      go_loopw [6, 27] (fun v iv wr => ∃ k : Nat, k ≤ n ∧ iv = .int .i64 (k : Int) ∧ Hid (OwnT wr B0 base v (lss.take k).flatten ∧ Below w.heap.size w wr ∧ ∀ j, v.ownBlock = some j → w.heap.size ≤ j)) (fun _ iv _ => n - (intOf iv).toNat)
      case atStart =>
        have hm := Hm1.out
        exact ⟨0, Nat.zero_le _, rfl, Lib.hid ⟨⟨[], hm.weaken hbs, by simp, fun k u l h => by simp at h⟩, Hb1.out, fun j hj => (hm.block j hj).1⟩⟩
      case round =>
        obtain ⟨k9, hk9, rfl, HI⟩ := hrel
        by_cases hlt : k9 < n
        · obtain ⟨b, o, u, rfl, hb, hc, hu⟩ := (hr.kept HI.out.2.1 hB).cell hlt
          obtain ⟨A2, c2, rfl, hu⟩ := hu.form
          have hmo := HM.out k9 hlt
          have hle1 := HL.out (k9 + 1)
          rw [hmo, List.length_append] at hle1
          have hs := HS.out
          obtain ⟨q, hq⟩ : ∃ p, p = (lss.getD k9 []).length := ⟨_, rfl⟩
          obtain ⟨M, hM⟩ : ∃ M, M = (lss.take k9).flatten := ⟨_, rfl⟩
          obtain ⟨L9, hL9⟩ : ∃ M, M = lss.getD k9 [] := ⟨_, rfl⟩
          rw [← hL9] at hq hle1 hmo hu hc
          rw [← hq] at hc hle1 hu
          rw [← hM] at hmo hle1
          have Hi : Hid (OwnT wr B0 base u6 M ∧ Below w.heap.size w wr ∧ ∀ j, u6.ownBlock = some j → w.heap.size ≤ j) := Lib.hid (by rw [hM]; exact HI.out)
          have hML : M.length + L9.length ≤ 1000000 := by omega
          have HML := Lib.hid hML
          have Hmo := Lib.hid hmo
          have Hu := Lib.hid hu
          have Hq := Lib.hid hq
          clear hmo hle1 hs hq hM hL9 HI hu hML
          go_wp2_with (at_builtin; refine wpList_append_T2 rfl (.tmp 31) (.tmp 32) rfl rfl u6 M rfl Hi.out.1 _ L9 rfl Hu.out (by have := HML.out; omega) (Nat.le_trans hbs Hi.out.2.1.size) hB ?_; intro A3 n3 c3 w3 ho3 hg3 hv3)
          go_roundw
          case rel =>
            refine ⟨k9 + 1, by omega, by go_num, Lib.hid ⟨?_, Hi.out.2.1.trans ((Below.refl _ _).grown hg3 Hi.out.2.1.size Hi.out.2.2), fun j hj => by
              rcases hv3 with e | e
              · exact Hi.out.2.2 j (e ▸ hj)
              · rw [e] at hj; injection hj with hj; have := Hi.out.2.1.size; omega⟩⟩
            rw [Hmo.out]
            exact ho3
          case measure => simp [intOf]; omega
        · have h6 : n ≤ k9 := by omega
          have Hk9 := Lib.hid (show k9 = n by omega)
          clear hlt
          go_wp2_with fail
          go_ret
          have h := HI.out.1
          rw [Hk9.out, HA.out] at h
          exact ⟨_, rfl, h, HI.out.2.1⟩
set_option maxRecDepth 100000 in
set_option maxHeartbeats 1000000 in
theorem concatI_any (A : Option Addr) (n c : Nat) (lss : List (List (Int))) (w : World) (B : Nat) (hr : RdRowsI w B (.slice A n c) lss) (hB : B ≤ w.heap.size) (hn : n ≤ 100) (hs : lss.flatten.length ≤ 1000000) :
    Calls Tryz.prog 109 #[.slice A n c] w fun e w' => ∃ v, e = .returned v ∧ Mine w' w.heap.size 3 v (cellsI lss.flatten) ∧ Below w.heap.size w w' := by
  obtain ⟨ti, hi, hz0, hz1, hz2⟩ := info_parts info_int
  obtain ⟨hl, hnc, hcm⟩ := hr.len
  have hmore := fun k (h : k < n) => flat_more lss (k := k) (by omega)
  have hle := fun k => flat_le lss k
  have hall : (lss.take n).flatten = lss.flatten := by rw [hl, List.take_length]
  have HM := Lib.hid hmore
  have HL := Lib.hid hle
  have HA := Lib.hid hall
  have HS := Lib.hid hs
  clear hl hmore hle hall hs
  go_enter Tryz.func109, Tryz.ntmps109
  go_wp2_with fail
  go_loop [3, 11] (fun sv iv => ∃ k : Nat, k ≤ n ∧ iv = .int .i64 (k : Int) ∧ sv = .int .i64 ((lss.take k).flatten.length : Nat)) (fun _ iv => n - (intOf iv).toNat)
  case atStart => exact ⟨0, Nat.zero_le _, rfl, rfl⟩
  case round =>
    obtain ⟨k, hk, rfl, rfl⟩ := hrel
    by_cases hlt : k < n
    · obtain ⟨b, o, u, rfl, hb, hc, hu⟩ := hr.cell hlt
      obtain ⟨A2, c2, e2, hu⟩ := hu.formI
      subst e2
      have hmo := HM.out k hlt
      have hle1 := HL.out (k + 1)
      rw [hmo, List.length_append] at hle1
      have hs := HS.out
      obtain ⟨p, hp⟩ : ∃ p, p = (lss.take k).flatten.length := ⟨_, rfl⟩
      obtain ⟨q, hq⟩ : ∃ p, p = (lss.getD k []).length := ⟨_, rfl⟩
      rw [← hp, ← hq] at hle1
      rw [← hp]
      rw [← hq] at hc
      have hpq : p + q ≤ 1000000 := by omega
      have Hst := Lib.hid (show (lss.take (k + 1)).flatten.length = p + q by rw [hmo, List.length_append, hp, hq])
      clear hmo hle1 hs hp hq
      go_wp2_with fail
      go_round
      case rel => exact ⟨k + 1, by omega, by go_num, by rw [Hst.out]; go_num⟩
      case measure => simp [intOf]; omega
    · have h5 : n ≤ k := by omega
      have Hk := Lib.hid (show k = n by omega)
      have hle1 := HL.out k
      have hs := HS.out
      obtain ⟨p, hp⟩ : ∃ p, p = (lss.take k).flatten.length := ⟨_, rfl⟩
      rw [← hp] at hle1 ⊢
      have hp2 : p ≤ 1000000 := by omega
      clear hlt hp hle1 hs
      go_wp2_with (go_at_call 138; refine (growI_nil p w hp2).mono ?_; rintro e w1 ⟨A1, c1, rfl, hm, hb1⟩; have Hb1 := Lib.hid hb1; have Hm1 := Lib.hid hm; clear hb1 hm)
      go_loopw [6, 27] (fun v iv wr => ∃ k : Nat, k ≤ n ∧ iv = .int .i64 (k : Int) ∧ Hid (Mine wr w.heap.size 3 v (cellsI (lss.take k).flatten) ∧ Below w.heap.size w wr)) (fun _ iv _ => n - (intOf iv).toNat)
      case atStart =>
        have hm := Hm1.out
        exact ⟨0, Nat.zero_le _, rfl, Lib.hid ⟨by rw [List.take_zero]; exact hm, Hb1.out⟩⟩
      case round =>
        obtain ⟨k9, hk9, rfl, HI⟩ := hrel
        by_cases hlt : k9 < n
        · obtain ⟨b, o, u, rfl, hb, hc, hu⟩ := (hr.below (HI.out.2.mono hB)).cell hlt
          obtain ⟨A2, c2, e2, hu⟩ := hu.formI
          subst e2
          have hmo := HM.out k9 hlt
          have hle1 := HL.out (k9 + 1)
          rw [hmo, List.length_append] at hle1
          have hs := HS.out
          obtain ⟨q, hq⟩ : ∃ p, p = (lss.getD k9 []).length := ⟨_, rfl⟩
          obtain ⟨M, hM⟩ : ∃ M, M = (lss.take k9).flatten := ⟨_, rfl⟩
          obtain ⟨L9, hL9⟩ : ∃ M, M = lss.getD k9 [] := ⟨_, rfl⟩
          rw [← hL9] at hq hle1 hmo hu hc
          rw [← hq] at hc hle1 hu
          rw [← hM] at hmo hle1
          have Hi : Hid (Mine wr w.heap.size 3 u6 (cellsI M) ∧ Below w.heap.size w wr) := Lib.hid (by rw [hM]; exact HI.out)
          have hML : M.length + L9.length ≤ 1000000 := by omega
          have HML := Lib.hid hML
          have Hmo := Lib.hid hmo
          have Hu := Lib.hid hu
          have Hq := Lib.hid hq
          clear hmo hle1 hs hq hM hL9 HI hu hML
          go_wp2_with (at_builtin; refine wpList_append_rd rfl (.tmp 31) (.tmp 32) 54 rfl w.heap.size 3 ti _ 8 Tryz.underlying54 hi hz0 hz1 hz2 rfl u6 (cellsI M) rfl Hi.out.1 B _ (cellsI L9) rfl Hu.out (cellsI_one _) (by have := HML.out; rw [cellsI_length, cellsI_length]; omega) (by have := HML.out; unfold maxLen; rw [cellsI_length, cellsI_length]; omega) Hi.out.2.size ?_; intro v3 w3 ho3 hb3 _ _)
          go_roundw
          case rel =>
            refine ⟨k9 + 1, by omega, by go_num, Lib.hid ⟨?_, Hi.out.2.trans hb3⟩⟩
            rw [Hmo.out]
            rw [cellsI_append]
            exact ho3
          case measure => simp [intOf]; omega
        · have h6 : n ≤ k9 := by omega
          have Hk9 := Lib.hid (show k9 = n by omega)
          clear hlt
          go_wp2_with fail
          go_ret
          have h := HI.out.1
          rw [Hk9.out, HA.out] at h
          exact ⟨_, rfl, h, HI.out.2⟩
end Go.Proofs.YtnmokkkbghlpbaaGreat
/-
  A node in new memory: copies, copied of package node, by contracts.
-/
namespace Go.Proofs.YtnmokkkbghlpbaaGreat
open Go.RowKit
set_option maxRecDepth 100000 in
set_option maxHeartbeats 400000 in
theorem copies_any (A : Option Addr) (n c : Nat) (ls : List (List UInt8)) (w : World) (B : Nat) (hr : RdAll w B (.slice A n c) ls) (hB : B ≤ w.heap.size) (hn : n ≤ 1000000) (hkl : ∀ j, j < n → (ls.getD j []).length ≤ 1000000) :
    Calls Tryz.prog 108 #[.slice A n c] w fun e w' => ∃ A' n' c', e = .returned (.slice A' n' c') ∧ OwnT w' 0 w.heap.size (.slice A' n' c') ls ∧ Below w.heap.size w w' := by
  obtain ⟨hl, hnc, hcm⟩ := hr.len
  have hmore := fun k (h : k < n) => take_more ls [] (k := k) (by omega)
  have hall : ls.take n = ls := by rw [hl, List.take_length]
  have hlen : ∀ k, (ls.take k).length ≤ k := fun k => by simp; omega
  have HM := Lib.hid hmore
  have HA := Lib.hid hall
  have HL := Lib.hid hlen
  have HK := Lib.hid hkl
  clear hl hmore hall hlen hkl
  go_enter Tryz.func108, Tryz.ntmps108
  go_wp2_with fail
  go_loopw [3, 8] (fun ov iv wr => ∃ (k : Nat) (A1 : Option Addr) (n1 c1 : Nat), k ≤ n ∧ iv = .int .i64 (k : Int) ∧ ov = .slice A1 n1 c1 ∧ Hid (OwnT wr 0 w.heap.size (.slice A1 n1 c1) (ls.take k) ∧ Below w.heap.size w wr)) (fun _ iv _ => n - (intOf iv).toNat)
  case atStart => exact ⟨0, _, _, _, Nat.zero_le _, rfl, rfl, Lib.hid ⟨OwnT.nil _ _ _, Below.refl _ _⟩⟩
  case round =>
    obtain ⟨k, A1, n1, c1, hk, rfl, rfl, HI⟩ := hrel
    by_cases hlt : k < n
    · have hrw := hr.below (HI.out.2.mono hB)
      obtain ⟨b, o, rfl, hb⟩ := hr.addr (by omega)
      obtain ⟨A', m, c', hc, hp, hm, hmc, hmx⟩ := hrw.cell hlt
      have hby := bytes_one (.slice A' m c') (ls.getD k []) 31 wr B hp (Nat.le_trans hB HI.out.2.size) (by have := HK.out k hlt; omega)
      have HF := Lib.hid hby
      clear hrw hp hm hby
      go_wp2_with (first
        | (go_at_call 137; refine HF.out.mono ?_; rintro e w2 ⟨v2, rfl, hown2, hb2⟩; obtain ⟨A2, c2, rfl⟩ := hown2.form; have Ht2 := Lib.hid (hown2.txt (B0 := 0) HI.out.2.size); have Hb2 := Lib.hid hb2; have Ho2 := Lib.hid (HI.out.1.keep (Fr.below hb2) (RowB.none _ _) (Nat.zero_le _) (fun _ _ e => by cases e)); clear hown2 hb2)
        | (at_builtin; refine wpList_append_T rfl (.tmp 12) (.tmp 16) rfl rfl (.slice A1 n1 c1) _ rfl (Ho2.out.keep (Fr.alloc _ _) (RowB.none _ _) (Nat.zero_le _) (fun _ _ e => by cases e)) _ _ rfl (RdT.lit1 Ht2.out (Nat.zero_le _) _) (by have := HL.out k; simp at this ⊢; omega) (by have := HI.out.2.size; have := Hb2.out.size; simp; omega) (Nat.zero_le _) ?_; intro A3 n3 c3 w3 ho3 hb3 _; have Ho3 := Lib.hid ho3; have Hb3 := Lib.hid (((up HI.out.2 Hb2.out).alloc (by have := HI.out.2.size; have := Hb2.out.size; omega) (.cells #[.slice A2 _ c2] 31)).trans hb3); clear ho3 hb3))
      go_roundw
      case rel =>
        refine ⟨k + 1, _, _, _, by omega, by go_num, rfl, Lib.hid ⟨?_, Hb3.out⟩⟩
        rw [← HM.out k hlt]
        exact Ho3.out
      case measure => simp [intOf]; omega
    · have h5 : n ≤ k := by omega
      have Hk := Lib.hid (show k = n by omega)
      clear hlt
      go_wp2_with fail
      go_ret
      refine ⟨_, _, _, rfl, ?_, HI.out.2⟩
      rw [← HA.out, ← Hk.out]
      exact HI.out.1
/-- copied at work. -/
structure CopW (w0 w : World) (lf : Bool) (K V D uK uV : Value) (ks vs : List (List UInt8)) (ds : List Int) (g : Option Nat) : Prop where
  box : NdBox w w0.heap.size lf K V D
  out : w.heap[w0.heap.size + 1]? = some (.cells #[.bool false, .slice none 0 0, .slice none 0 0, .slice none 0 0] 126 (0, 0))
  rK : OwnT w 0 (w0.heap.size + 2) uK ks
  rV : OwnT w 0 (w0.heap.size + 2) uV vs
  e : ∀ b, g = some b → RdRowsI w w.heap.size (.slice (some ⟨b, 0, none⟩) 1 1) [ds]
  le : w0.heap.size + 2 ≤ w.heap.size
  below : Below w0.heap.size w0 w
section
variable {w0 w w' : World} {lf : Bool} {K V D uK uV v X : Value} {ks vs ls : List (List UInt8)} {g : Option Nat} {n : Nd} {ds : List Int}
theorem RdRowsI.more {w : World} {B B' : Nat} {x : Value} {lss : List (List Int)} (h : RdRowsI w B x lss) (hB : B ≤ B') : RdRowsI w B' x lss := by
  obtain ⟨vs, h1, h2, h3⟩ := h
  exact ⟨vs, h1.more hB, h2, fun k u l a b => (h3 k u l a b).more hB⟩
theorem CopW.cells (h : CopW w0 w lf K V D uK uV ks vs ds g) : w.cell? ⟨w0.heap.size, 0, none⟩ = some (.bool lf) ∧ w.cell? ⟨w0.heap.size, 1, none⟩ = some K ∧ w.cell? ⟨w0.heap.size, 2, none⟩ = some V ∧ w.cell? ⟨w0.heap.size, 3, none⟩ = some D := ⟨h.box.c0, h.box.c1, h.box.c2, h.box.c3⟩
theorem CopW.kept (h : CopW w0 w lf K V D uK uV ks vs ds g) (hb : Below w.heap.size w w') : CopW w0 w' lf K V D uK uV ks vs ds g :=
  ⟨h.box.later h.box.lt hb, (hb.block _ (by have := h.le; omega)).trans h.out, h.rK.keep (Fr.below hb) (RowB.none _ _) (Nat.zero_le _) (fun _ _ e => by cases e), h.rV.keep (Fr.below hb) (RowB.none _ _) (Nat.zero_le _) (fun _ _ e => by cases e), fun b e => ((h.e b e).below hb).more hb.size, Nat.le_trans h.le hb.size, up h.below hb⟩
theorem CopW.drew (h : CopW w0 w lf K V D uK uV ks vs ds g) : CopW w0 w.drew lf K V D uK uV ks vs ds g := h.kept (Below.refl _ _).drew
theorem CopW.lit (h : CopW w0 w lf K V D uK uV ks vs ds g) (hr : Rd w0 w0.heap.size D (cellsI ds)) {m : Nat} (hm : w.heap.size = m) : CopW w0 (w.alloc (.cells #[D] 54)) lf K V D uK uV ks vs ds (some m) := by
  subst hm
  have h1 := h.kept ((Below.refl _ _).alloc (Nat.le_refl _) (.cells #[D] 54))
  refine ⟨h1.box, h1.out, h1.rK, h1.rV, fun b e => ?_, h1.le, h1.below⟩
  injection e with e
  subst e
  exact (RdRowsI.lit1 w 54 (a := D) (la := ds) ((hr.below h.below).more h.below.size)).more (by simp)
theorem CopW.copyK (h : CopW w0 w lf K V D (.slice none 0 0) uV [] vs ds g) (hr : NdIs w0 w0.heap.size K V D n) (hn : n.keys.length ≤ 1000000) (hkl : ∀ j, j < n.keys.length → (n.keys.getD j []).length ≤ 1000000) : Calls Tryz.prog 108 #[K] w fun e w' => ∃ A' n' c', e = .returned (.slice A' n' c') ∧ CopW w0 w' lf K V D (.slice A' n' c') uV n.keys vs ds g := by
  obtain ⟨A, c, rfl, hk⟩ := hr.keys.form
  refine (copies_any A _ c n.keys w w0.heap.size (hk.below h.below) h.below.size hn hkl).mono ?_
  rintro e w' ⟨A', n', c', rfl, ho, hb⟩
  have h1 := h.kept hb
  exact ⟨A', n', c', rfl, h1.box, h1.out, ho.weaken h.le, h1.rV, h1.e, h1.le, h1.below⟩
theorem CopW.copyV (h : CopW w0 w lf K V D uK (.slice none 0 0) ks [] ds g) (hr : NdIs w0 w0.heap.size K V D n) (hn : n.vals.length ≤ 1000000) (hkl : ∀ j, j < n.vals.length → (n.vals.getD j []).length ≤ 1000000) : Calls Tryz.prog 108 #[V] w fun e w' => ∃ A' n' c', e = .returned (.slice A' n' c') ∧ CopW w0 w' lf K V D uK (.slice A' n' c') ks n.vals ds g := by
  obtain ⟨A, c, rfl, hk⟩ := hr.vals.form
  refine (copies_any A _ c n.vals w w0.heap.size (hk.below h.below) h.below.size hn hkl).mono ?_
  rintro e w' ⟨A', n', c', rfl, ho, hb⟩
  have h1 := h.kept hb
  exact ⟨A', n', c', rfl, h1.box, h1.out, h1.rK, ho.weaken h.le, h1.e, h1.le, h1.below⟩
theorem CopW.concat {b : Nat} (h : CopW w0 w lf K V D uK uV ks vs ds (some b)) (hn : ds.length ≤ 1000000) : Calls Tryz.prog 109 #[.slice (some ⟨b, 0, none⟩) 1 1] w fun e w' => ∃ A' n' c', e = .returned (.slice A' n' c') ∧ FewZ w0 w' lf K V D uK uV (.slice A' n' c') ⟨lf, ks, vs, ds⟩ := by
  refine (concatI_any _ 1 1 [ds] w w.heap.size (h.e b rfl) (Nat.le_refl _) (by omega) (by simpa using hn)).mono ?_
  rintro e w' ⟨v, rfl, ho, hb⟩
  rw [show [ds].flatten = ds by simp] at ho
  obtain ⟨A', c', rfl⟩ := ho.form
  have h1 := h.kept hb
  exact ⟨A', _, c', rfl, h1.box, h1.out, ⟨h1.rK, h1.rV, ho.weaken h.le⟩, h1.below⟩
theorem CopW.start : CopW w0 ((w0.alloc (.cells #[.bool lf, K, V, D] 126)).alloc (.cells #[.bool false, .slice none 0 0, .slice none 0 0, .slice none 0 0] 126)) lf K V D (.slice none 0 0) (.slice none 0 0) [] [] ds none := by
  have e1 : (w0.alloc (.cells #[.bool lf, K, V, D] 126)).heap.size = w0.heap.size + 1 := by simp
  refine ⟨(NdBox.made w0 lf K V D).later (by simp) ((Below.refl (w0.alloc (.cells #[.bool lf, K, V, D] 126)).heap.size _).alloc (Nat.le_refl _) _), ?_, OwnT.nil _ _ _, OwnT.nil _ _ _, (fun b e => by cases e), by simp, ((Below.refl _ _).alloc (Nat.le_refl _) _).alloc (by rw [e1]; omega) _⟩
  rw [← e1]
  exact heap_alloc_last _ _
end
/-- All lengths of a node's texts are small. -/
def Nd.Small (n : Nd) : Prop := (∀ j, j < n.keys.length → (n.keys.getD j []).length ≤ 1000000) ∧ (∀ j, j < n.vals.length → (n.vals.getD j []).length ≤ 1000000)
set_option maxRecDepth 100000 in
set_option maxHeartbeats 800000 in
theorem copied_any {n : Nd} {K V D : Value} {w : World} (hr : NdIs w w.heap.size K V D n) (hsh : n.Short 1000000) (hsm : n.Small) :
    Calls Tryz.prog 83 #[ndVal n.leaf K V D] w fun e w' => ∃ K' V' D', e = .returned (ndVal n.leaf K' V' D') ∧ NdNew w' w.heap.size K' V' D' n ∧ Below w.heap.size w w' := by
  obtain ⟨A1, c1, A2, c2, A3, c3, rfl, rfl, rfl⟩ := hr.form
  obtain ⟨lf, hlf⟩ : ∃ x, x = n.leaf := ⟨_, rfl⟩
  have hct : n = ⟨lf, n.keys, n.vals, n.kids⟩ := by rw [hlf]
  obtain ⟨a, ha⟩ : ∃ x, x = n.keys.length := ⟨_, rfl⟩
  obtain ⟨b, hb⟩ : ∃ x, x = n.vals.length := ⟨_, rfl⟩
  obtain ⟨d, hd⟩ : ∃ x, x = n.kids.length := ⟨_, rfl⟩
  rw [← ha, ← hb, ← hd] at hr
  rw [← hlf, ← ha, ← hb, ← hd]
  have hs0 := CopW.start (w0 := w) (lf := lf) (K := .slice A1 a c1) (V := .slice A2 b c2) (D := .slice A3 d c3) (ds := n.kids)
  obtain ⟨x0, x1, x2, x3⟩ := hs0.box
  have S0 := hs0.drew.cells
  have Hs0 := Lib.hid hs0.drew
  have HR := Lib.hid hr
  have HSh := Lib.hid hsh
  have HSm := Lib.hid hsm
  have HCt := Lib.hid hct
  clear hs0 hr hct ha hb hd hlf hsh hsm
  go_enter Tryz.func83, Tryz.ntmps83
  go_wp2_with fail
  refine wp_region_late (S := fun w' => w'.cell? ⟨w.heap.size, 0, none⟩ = some (.bool lf) ∧ w'.cell? ⟨w.heap.size, 1, none⟩ = some (.slice A1 a c1) ∧ w'.cell? ⟨w.heap.size, 2, none⟩ = some (.slice A2 b c2) ∧ w'.cell? ⟨w.heap.size, 3, none⟩ = some (.slice A3 d c3)) [13] (by kernel_rfl) S0 (fun hHeld => ?_)
  refine' anyU_take0 (i := 0) (oi := ⟨some 3, .fieldAddr 126 (.tmp 1) 0, _, _, _, none⟩) (v := _) rfl (by kernel_rfl) (fun _ _ _ h => h) (Or.inl ⟨by rfl, ?hy1⟩) (by assumption) ?rest1
  case hy1 => (intro w hSw; go_simp <;> with_reducible rfl)
  case rest1 =>
  go_frame
  refine' anyU_take (i := 1) (oi := ⟨some 4, .load 4 (.tmp 3), _, _, _, none⟩) (v := _) rfl (by kernel_rfl) (fun _ _ _ h => h) (Or.inl ⟨by rfl, ?hy2⟩) (by assumption) ?rest2
  case hy2 => (intro w hSw; obtain ⟨s0, s1, s2, s3⟩ := hSw; go_simp <;> with_reducible rfl)
  case rest2 =>
  go_frame
  refine' anyU_take0 (i := 2) (oi := ⟨some 5, .fieldAddr 126 (.tmp 1) 1, _, _, _, none⟩) (v := _) rfl (by kernel_rfl) (fun _ _ _ h => h) (Or.inl ⟨by rfl, ?hy3⟩) (by assumption) ?rest3
  case hy3 => (intro w hSw; go_simp <;> with_reducible rfl)
  case rest3 =>
  go_frame
  refine' anyU_take (i := 3) (oi := ⟨some 6, .load 56 (.tmp 5), _, _, _, none⟩) (v := _) rfl (by kernel_rfl) (fun _ _ _ h => h) (Or.inl ⟨by rfl, ?hy4⟩) (by assumption) ?rest4
  case hy4 => (intro w hSw; obtain ⟨s0, s1, s2, s3⟩ := hSw; go_simp <;> with_reducible rfl)
  case rest4 =>
  go_frame
  refine' anyU_take0 (i := 5) (oi := ⟨some 8, .fieldAddr 126 (.tmp 1) 2, _, _, _, none⟩) (v := _) rfl (by kernel_rfl) (fun _ _ _ h => h) (Or.inl ⟨by rfl, ?hy5⟩) (by assumption) ?rest5
  case hy5 => (intro w hSw; go_simp <;> with_reducible rfl)
  case rest5 =>
  go_frame
  refine' anyU_take (i := 6) (oi := ⟨some 9, .load 56 (.tmp 8), _, _, _, none⟩) (v := _) rfl (by kernel_rfl) (fun _ _ _ h => h) (Or.inl ⟨by rfl, ?hy6⟩) (by assumption) ?rest6
  case hy6 => (intro w hSw; obtain ⟨s0, s1, s2, s3⟩ := hSw; go_simp <;> with_reducible rfl)
  case rest6 =>
  go_frame
  refine' anyU_take0 (i := 8) (oi := ⟨some 11, .fieldAddr 126 (.tmp 1) 3, _, _, _, none⟩) (v := _) rfl (by kernel_rfl) (fun _ _ _ h => h) (Or.inl ⟨by rfl, ?hy7⟩) (by assumption) ?rest7
  case hy7 => (intro w hSw; go_simp <;> with_reducible rfl)
  case rest7 =>
  go_frame
  refine' anyU_take (i := 9) (oi := ⟨some 12, .load 54 (.tmp 11), _, _, _, none⟩) (v := _) rfl (by kernel_rfl) (fun _ _ _ h => h) (Or.inl ⟨by rfl, ?hy8⟩) (by assumption) ?rest8
  case hy8 => (intro w hSw; obtain ⟨s0, s1, s2, s3⟩ := hSw; go_simp <;> with_reducible rfl)
  case rest8 =>
  go_frame
  refine anyU_ready (rs := [4, 10]) (by kernel_rfl) (by simp) (AllU.cons (o := ⟨some 7, .call { callee := .value (.func 108), args := #[.tmp 6], argTypes := #[56] }, _, _, _, none⟩) rfl (fun K hK => ?_) (fun h => absurd h (by decide)) (AllU.cons (o := ⟨some 13, .buildSlice 214 1 #[(0, .tmp 12)], _, _, _, none⟩) rfl (fun K hK => ?_) (fun h => absurd h (by decide)) AllU.nil))
  · rw [if_pos (by rfl)]
    go_simp
    refine (Hs0.out.copyK HR.out HSh.out.1 HSm.out.1).mono ?_
    rintro e wa ⟨Aa, na, ca, rfl, ha⟩
    have Hs1 := Lib.hid ha
    have Sa := Lib.hid ha.cells
    clear ha
    dsimp only
    refine hK.out _ _ (fun _ => Sa.out) ?_
    clear hK K
    try go_frame
    refine anyU_ready (rs := [7, 10]) (by kernel_rfl) (by simp) (AllU.cons (o := ⟨some 10, .call { callee := .value (.func 108), args := #[.tmp 9], argTypes := #[56] }, _, _, _, none⟩) rfl (fun K hK => ?_) (fun h => absurd h (by decide)) (AllU.cons (o := ⟨some 13, .buildSlice 214 1 #[(0, .tmp 12)], _, _, _, none⟩) rfl (fun K hK => ?_) (fun h => absurd h (by decide)) AllU.nil))
    · rw [if_pos (by rfl)]
      go_simp
      refine (Hs1.out.copyV HR.out HSh.out.2.1 HSm.out.2).mono ?_
      rintro e wb ⟨Ab, nb, cb, rfl, hb⟩
      have Hs2 := Lib.hid hb
      have Sb := Lib.hid hb.cells
      clear hb
      dsimp only
      refine hK.out _ _ (fun _ => Sb.out) ?_
      clear hK K
      try go_frame
      refine anyU_ready (rs := [10]) (by kernel_rfl) (by simp) (AllU.cons (o := ⟨some 13, .buildSlice 214 1 #[(0, .tmp 12)], _, _, _, none⟩) rfl (fun K hK => ?_) (fun h => absurd h (by decide)) AllU.nil)
      rw [if_pos (by rfl)]
      have Hs3 := Lib.hid (Hs2.out.lit HR.out.kids rfl)
      have Sc := Lib.hid Hs3.out.cells
      go_simp
      refine hK.out _ _ (fun _ => Sc.out) ?_
      clear hK K
      try go_frame
      refine anyU_ready (rs := [11]) (by kernel_rfl) (by simp) (AllU.cons (o := ⟨some 14, .call { callee := .value (.func 109), args := #[.tmp 13], argTypes := #[214] }, _, _, _, none⟩) rfl (fun K hK => ?_) (fun h => absurd h (by decide)) AllU.nil)
      rw [if_pos (by rfl)]
      go_simp
      refine (Hs3.out.concat HSh.out.2.2).mono ?_
      rintro e wz ⟨Az, nz, cz, rfl, hz⟩
      have Hz := Lib.hid hz
      have Sz := Lib.hid (And.intro hz.box.c0 (And.intro hz.box.c1 (And.intro hz.box.c2 hz.box.c3)))
      clear hz
      dsimp only
      refine hK.out _ _ (fun _ => Sz.out) ?_
      clear hK K
      try go_frame
      obtain ⟨y0, y1, y2, y3, f0, f1, f2, f3⟩ := out_cells Hz.out.out
      refine' anyU_take0 (i := 12) (oi := ⟨some 15, .build 126 #[(0, .tmp 4), (1, .tmp 7), (2, .tmp 10), (3, .tmp 14)], _, _, _, none⟩) (v := _) rfl (by kernel_rfl) (fun _ _ _ h => h) (Or.inl ⟨by rfl, ?hy9⟩) (by assumption) ?rest9
      case hy9 => (intro w hSw; go_simp <;> with_reducible rfl)
      case rest9 =>
      go_frame
      refine anyU_ready (rs := [13]) (by kernel_rfl) (by simp) (AllU.cons (o := ⟨none, .store 126 (.tmp 2) (.tmp 15), _, _, _, none⟩) rfl (fun K hK => ?_) (fun _ => by kernel_rfl) AllU.nil)
      rw [if_pos (by rfl)]
      go_simp
      refine hK.out _ _ (fun h => absurd h (by decide)) ?_
      clear hK K
      try go_frame
      refine anyU_done (by kernel_rfl) ?_ _
      obtain ⟨W, hW⟩ : ∃ W, W = store4 wz (w.heap.size + 1) lf (.slice Aa na ca) (.slice Ab nb cb) (.slice Az nz cz) := ⟨_, rfl⟩
      have hbox := box_of_top (store4_top (lf := lf) (K := .slice Aa na ca) (V := .slice Ab nb cb) (D := .slice Az nz cz) Hz.out.out)
      have hfi := Hz.out.new.store4 (lf := lf) (K := .slice Aa na ca) (V := .slice Ab nb cb) (D := .slice Az nz cz) (N := w.heap.size + 1) (by omega)
      have hfb := Hz.out.below.trans (store4_below (w := wz) (lf := lf) (K := .slice Aa na ca) (V := .slice Ab nb cb) (D := .slice Az nz cz) (show w.heap.size ≤ w.heap.size + 1 by omega))
      rw [← hW] at hbox hfi hfb
      obtain ⟨q0, q1, q2, q3⟩ := hbox
      have HFi := Lib.hid hfi
      have HFb := Lib.hid hfb
      unfold store4 at hW
      rw [← hW]
      clear hW hfi hfb y0 y1 y2 y3 f0 f1 f2 f3
      go_wp2_with fail
      exact bodyPost_ret (v := ndVal lf (.slice Aa na ca) (.slice Ab nb cb) (.slice Az nz cz)) (by simp [results, Tryz.results83, go_sem, q0, q1, q2, q3]) rfl ⟨_, _, _, rfl, by rw [HCt.out]; exact HFi.out.weaken (by omega), HFb.out⟩
    · rw [if_pos (by rfl)]
      have Hs2 := Lib.hid (Hs1.out.lit HR.out.kids rfl)
      have Sc := Lib.hid Hs2.out.cells
      go_simp
      refine hK.out _ _ (fun _ => Sc.out) ?_
      clear hK K
      try go_frame
      refine anyU_ready (rs := [7]) (by kernel_rfl) (by simp) (AllU.cons (o := ⟨some 10, .call { callee := .value (.func 108), args := #[.tmp 9], argTypes := #[56] }, _, _, _, none⟩) rfl (fun K hK => ?_) (fun h => absurd h (by decide)) AllU.nil)
      rw [if_pos (by rfl)]
      go_simp
      refine (Hs2.out.copyV HR.out HSh.out.2.1 HSm.out.2).mono ?_
      rintro e wb ⟨Ab, nb, cb, rfl, hb⟩
      have Hs3 := Lib.hid hb
      have Sb := Lib.hid hb.cells
      clear hb
      dsimp only
      refine hK.out _ _ (fun _ => Sb.out) ?_
      clear hK K
      try go_frame
      refine anyU_ready (rs := [11]) (by kernel_rfl) (by simp) (AllU.cons (o := ⟨some 14, .call { callee := .value (.func 109), args := #[.tmp 13], argTypes := #[214] }, _, _, _, none⟩) rfl (fun K hK => ?_) (fun h => absurd h (by decide)) AllU.nil)
      rw [if_pos (by rfl)]
      go_simp
      refine (Hs3.out.concat HSh.out.2.2).mono ?_
      rintro e wz ⟨Az, nz, cz, rfl, hz⟩
      have Hz := Lib.hid hz
      have Sz := Lib.hid (And.intro hz.box.c0 (And.intro hz.box.c1 (And.intro hz.box.c2 hz.box.c3)))
      clear hz
      dsimp only
      refine hK.out _ _ (fun _ => Sz.out) ?_
      clear hK K
      try go_frame
      obtain ⟨y0, y1, y2, y3, f0, f1, f2, f3⟩ := out_cells Hz.out.out
      refine' anyU_take0 (i := 12) (oi := ⟨some 15, .build 126 #[(0, .tmp 4), (1, .tmp 7), (2, .tmp 10), (3, .tmp 14)], _, _, _, none⟩) (v := _) rfl (by kernel_rfl) (fun _ _ _ h => h) (Or.inl ⟨by rfl, ?hy10⟩) (by assumption) ?rest10
      case hy10 => (intro w hSw; go_simp <;> with_reducible rfl)
      case rest10 =>
      go_frame
      refine anyU_ready (rs := [13]) (by kernel_rfl) (by simp) (AllU.cons (o := ⟨none, .store 126 (.tmp 2) (.tmp 15), _, _, _, none⟩) rfl (fun K hK => ?_) (fun _ => by kernel_rfl) AllU.nil)
      rw [if_pos (by rfl)]
      go_simp
      refine hK.out _ _ (fun h => absurd h (by decide)) ?_
      clear hK K
      try go_frame
      refine anyU_done (by kernel_rfl) ?_ _
      obtain ⟨W, hW⟩ : ∃ W, W = store4 wz (w.heap.size + 1) lf (.slice Aa na ca) (.slice Ab nb cb) (.slice Az nz cz) := ⟨_, rfl⟩
      have hbox := box_of_top (store4_top (lf := lf) (K := .slice Aa na ca) (V := .slice Ab nb cb) (D := .slice Az nz cz) Hz.out.out)
      have hfi := Hz.out.new.store4 (lf := lf) (K := .slice Aa na ca) (V := .slice Ab nb cb) (D := .slice Az nz cz) (N := w.heap.size + 1) (by omega)
      have hfb := Hz.out.below.trans (store4_below (w := wz) (lf := lf) (K := .slice Aa na ca) (V := .slice Ab nb cb) (D := .slice Az nz cz) (show w.heap.size ≤ w.heap.size + 1 by omega))
      rw [← hW] at hbox hfi hfb
      obtain ⟨q0, q1, q2, q3⟩ := hbox
      have HFi := Lib.hid hfi
      have HFb := Lib.hid hfb
      unfold store4 at hW
      rw [← hW]
      clear hW hfi hfb y0 y1 y2 y3 f0 f1 f2 f3
      go_wp2_with fail
      exact bodyPost_ret (v := ndVal lf (.slice Aa na ca) (.slice Ab nb cb) (.slice Az nz cz)) (by simp [results, Tryz.results83, go_sem, q0, q1, q2, q3]) rfl ⟨_, _, _, rfl, by rw [HCt.out]; exact HFi.out.weaken (by omega), HFb.out⟩
  · rw [if_pos (by rfl)]
    have Hs1 := Lib.hid (Hs0.out.lit HR.out.kids (m := w.heap.size + 1 + 1) (by simp))
    have Sc := Lib.hid Hs1.out.cells
    go_simp
    refine hK.out _ _ (fun _ => Sc.out) ?_
    clear hK K
    try go_frame
    refine anyU_ready (rs := [4]) (by kernel_rfl) (by simp) (AllU.cons (o := ⟨some 7, .call { callee := .value (.func 108), args := #[.tmp 6], argTypes := #[56] }, _, _, _, none⟩) rfl (fun K hK => ?_) (fun h => absurd h (by decide)) AllU.nil)
    rw [if_pos (by rfl)]
    go_simp
    refine (Hs1.out.copyK HR.out HSh.out.1 HSm.out.1).mono ?_
    rintro e wa ⟨Aa, na, ca, rfl, ha⟩
    have Hs2 := Lib.hid ha
    have Sa := Lib.hid ha.cells
    clear ha
    dsimp only
    refine hK.out _ _ (fun _ => Sa.out) ?_
    clear hK K
    try go_frame
    refine anyU_ready (rs := [7]) (by kernel_rfl) (by simp) (AllU.cons (o := ⟨some 10, .call { callee := .value (.func 108), args := #[.tmp 9], argTypes := #[56] }, _, _, _, none⟩) rfl (fun K hK => ?_) (fun h => absurd h (by decide)) AllU.nil)
    rw [if_pos (by rfl)]
    go_simp
    refine (Hs2.out.copyV HR.out HSh.out.2.1 HSm.out.2).mono ?_
    rintro e wb ⟨Ab, nb, cb, rfl, hb⟩
    have Hs3 := Lib.hid hb
    have Sb := Lib.hid hb.cells
    clear hb
    dsimp only
    refine hK.out _ _ (fun _ => Sb.out) ?_
    clear hK K
    try go_frame
    refine anyU_ready (rs := [11]) (by kernel_rfl) (by simp) (AllU.cons (o := ⟨some 14, .call { callee := .value (.func 109), args := #[.tmp 13], argTypes := #[214] }, _, _, _, none⟩) rfl (fun K hK => ?_) (fun h => absurd h (by decide)) AllU.nil)
    rw [if_pos (by rfl)]
    go_simp
    refine (Hs3.out.concat HSh.out.2.2).mono ?_
    rintro e wz ⟨Az, nz, cz, rfl, hz⟩
    have Hz := Lib.hid hz
    have Sz := Lib.hid (And.intro hz.box.c0 (And.intro hz.box.c1 (And.intro hz.box.c2 hz.box.c3)))
    clear hz
    dsimp only
    refine hK.out _ _ (fun _ => Sz.out) ?_
    clear hK K
    try go_frame
    obtain ⟨y0, y1, y2, y3, f0, f1, f2, f3⟩ := out_cells Hz.out.out
    refine' anyU_take0 (i := 12) (oi := ⟨some 15, .build 126 #[(0, .tmp 4), (1, .tmp 7), (2, .tmp 10), (3, .tmp 14)], _, _, _, none⟩) (v := _) rfl (by kernel_rfl) (fun _ _ _ h => h) (Or.inl ⟨by rfl, ?hy11⟩) (by assumption) ?rest11
    case hy11 => (intro w hSw; go_simp <;> with_reducible rfl)
    case rest11 =>
    go_frame
    refine anyU_ready (rs := [13]) (by kernel_rfl) (by simp) (AllU.cons (o := ⟨none, .store 126 (.tmp 2) (.tmp 15), _, _, _, none⟩) rfl (fun K hK => ?_) (fun _ => by kernel_rfl) AllU.nil)
    rw [if_pos (by rfl)]
    go_simp
    refine hK.out _ _ (fun h => absurd h (by decide)) ?_
    clear hK K
    try go_frame
    refine anyU_done (by kernel_rfl) ?_ _
    obtain ⟨W, hW⟩ : ∃ W, W = store4 wz (w.heap.size + 1) lf (.slice Aa na ca) (.slice Ab nb cb) (.slice Az nz cz) := ⟨_, rfl⟩
    have hbox := box_of_top (store4_top (lf := lf) (K := .slice Aa na ca) (V := .slice Ab nb cb) (D := .slice Az nz cz) Hz.out.out)
    have hfi := Hz.out.new.store4 (lf := lf) (K := .slice Aa na ca) (V := .slice Ab nb cb) (D := .slice Az nz cz) (N := w.heap.size + 1) (by omega)
    have hfb := Hz.out.below.trans (store4_below (w := wz) (lf := lf) (K := .slice Aa na ca) (V := .slice Ab nb cb) (D := .slice Az nz cz) (show w.heap.size ≤ w.heap.size + 1 by omega))
    rw [← hW] at hbox hfi hfb
    obtain ⟨q0, q1, q2, q3⟩ := hbox
    have HFi := Lib.hid hfi
    have HFb := Lib.hid hfb
    unfold store4 at hW
    rw [← hW]
    clear hW hfi hfb y0 y1 y2 y3 f0 f1 f2 f3
    go_wp2_with fail
    exact bodyPost_ret (v := ndVal lf (.slice Aa na ca) (.slice Ab nb cb) (.slice Az nz cz)) (by simp [results, Tryz.results83, go_sem, q0, q1, q2, q3]) rfl ⟨_, _, _, rfl, by rw [HCt.out]; exact HFi.out.weaken (by omega), HFb.out⟩
end Go.Proofs.YtnmokkkbghlpbaaGreat
/-
  Put and Delete of leaves, as plain lists.
-/
namespace Go.Proofs.YtnmokkkbghlpbaaGreat
section
variable {ks : List (List UInt8)} {key : List UInt8}
theorem belowN_iff (hs : KeysOk ks) : ∀ k, k ≤ ks.length → ∀ j, j < k → (j < belowN ks key k ↔ cmpB (ks.getD j []) key < 0)
  | 0, _, j, hj => absurd hj (Nat.not_lt_zero _)
  | k + 1, hk, j, hj => by
    have ih := belowN_iff hs k (by omega)
    have hle := belowN_le ks key k
    have e : belowN ks key (k + 1) = belowN ks key k + (if cmpB (ks.getD k []) key < 0 then 1 else 0) := rfl
    by_cases hc : cmpB (ks.getD k []) key < 0
    · have hall : ∀ i, i < k → cmpB (ks.getD i []) key < 0 := fun i hi => cmpB_trans (hs.rise hi (by omega)) hc
      have hfull : belowN ks key k = k := by
        rcases Nat.lt_or_ge (belowN ks key k) k with h | h
        · have := (ih _ h).2 (hall _ h); omega
        · omega
      rw [e, if_pos hc, hfull]
      constructor
      · intro _
        by_cases ej : j = k
        · subst ej; exact hc
        · exact hall j (by omega)
      · intro _; omega
    · rw [e, if_neg hc, Nat.add_zero]
      by_cases ej : j = k
      · subst ej
        exact ⟨fun h => by omega, fun h => absurd h hc⟩
      · exact ih j (by omega)
theorem hasN_iff : ∀ k, hasN ks key k = true ↔ ∃ j, j < k ∧ ks.getD j [] = key
  | 0 => ⟨fun h => (by cases h), fun ⟨_, h, _⟩ => absurd h (Nat.not_lt_zero _)⟩
  | k + 1 => by
    have ih := hasN_iff k
    show (hasN ks key k || decide (ks.getD k [] = key)) = true ↔ _
    rw [Bool.or_eq_true, decide_eq_true_eq, ih]
    constructor
    · rintro (⟨j, h1, h2⟩ | h)
      · exact ⟨j, by omega, h2⟩
      · exact ⟨k, by omega, h⟩
    · rintro ⟨j, h1, h2⟩
      by_cases e : j = k
      · subst e; exact .inr h2
      · exact .inl ⟨j, by omega, h2⟩
/-- Where key stands, or would. -/
def atN (ks : List (List UInt8)) (key : List UInt8) : Nat := belowN ks key ks.length
def isN (ks : List (List UInt8)) (key : List UInt8) : Bool := hasN ks key ks.length
theorem atN_le : atN ks key ≤ ks.length := belowN_le _ _ _
theorem atN_lt (hs : KeysOk ks) {j : Nat} (h : j < atN ks key) : cmpB (ks.getD j []) key < 0 := (belowN_iff hs _ (Nat.le_refl _) j (Nat.lt_of_lt_of_le h atN_le)).1 h
theorem atN_ge (hs : KeysOk ks) {j : Nat} (h : atN ks key ≤ j) (hj : j < ks.length) : 0 ≤ cmpB (ks.getD j []) key := by
  rcases Int.lt_or_le (cmpB (ks.getD j []) key) 0 with h1 | h1
  · have := (belowN_iff (key := key) hs _ (Nat.le_refl _) j hj).2 h1
    unfold atN at h
    omega
  · exact h1
/-- Key j is key just where it stands. -/
theorem isN_iff (hs : KeysOk ks) {j : Nat} (hj : j < ks.length) : ks.getD j [] = key ↔ (isN ks key = true ∧ j = atN ks key) := by
  have hone : ∀ i, i < ks.length → ks.getD i [] = key → i = atN ks key := fun i hi he => by
    have h0 : cmpB (ks.getD i []) key = 0 := by rw [he]; exact cmpB_self _
    rcases Nat.lt_trichotomy i (atN ks key) with h | h | h
    · have := atN_lt hs h; omega
    · exact h
    · have h1 := atN_ge hs (key := key) (Nat.le_refl _) (by omega)
      have h2 := hs.rise h hi
      rw [he] at h2
      omega
  constructor
  · intro h
    exact ⟨(hasN_iff _).2 ⟨j, hj, h⟩, hone j hj h⟩
  · rintro ⟨h1, h2⟩
    obtain ⟨i, hi, he⟩ := (hasN_iff _).1 h1
    rw [h2, ← hone i hi he]
    exact he
theorem isN_lt (hs : KeysOk ks) (h : isN ks key = true) : atN ks key < ks.length := by
  obtain ⟨i, hi, he⟩ := (hasN_iff _).1 h
  have := ((isN_iff hs hi).1 he).2
  omega
end
/-- x put at place k of xs, in the place of the d behind it. -/
def putL (k d : Nat) (x : List UInt8) (xs : List (List UInt8)) : List (List UInt8) := xs.take k ++ x :: xs.drop (k + d)
def delL (k : Nat) (xs : List (List UInt8)) : List (List UInt8) := xs.take k ++ xs.drop (k + 1)
/-- The same, place by place. -/
def putS (k d : Nat) (x : List UInt8) (xs : List (List UInt8)) : Nat → List (List UInt8)
  | 0 => []
  | i + 1 => (putS k d x xs i ++ if i = k then [x] else []) ++ if i < xs.length ∧ ¬ (d = 1 ∧ i = k) then [xs.getD i []] else []
def delS (k : Nat) (xs : List (List UInt8)) : Nat → List (List UInt8)
  | 0 => []
  | i + 1 => delS k xs i ++ if i = k then [] else [xs.getD i []]
section
variable {k d : Nat} {x : List UInt8} {xs : List (List UInt8)}
theorem take_one {i : Nat} (h : i < xs.length) : xs.take i ++ [xs.getD i []] = xs.take (i + 1) := by
  rw [List.take_add_one]
  simp [List.getD, h]
theorem drop_one {i d : Nat} (h : i < xs.length) (hd : d ≤ i) : (xs.take i).drop d ++ [xs.getD i []] = (xs.take (i + 1)).drop d := by
  rw [← take_one h, List.drop_append_of_le_length (by simp; omega)]
theorem putS_is (hd : d ≤ 1) (hk : k + d ≤ xs.length) : ∀ i, i ≤ xs.length + 1 → putS k d x xs i = if i ≤ k then xs.take i else xs.take k ++ x :: (xs.take i).drop (k + d)
  | 0, _ => by simp [putS]
  | i + 1, hi => by
    have ih := putS_is hd hk i (by omega)
    rw [putS, ih]
    rcases Nat.lt_trichotomy i k with h | h | h
    · rw [if_pos (show i ≤ k by omega), if_neg (show ¬ i = k by omega), if_pos (show i < xs.length ∧ ¬ (d = 1 ∧ i = k) from ⟨by omega, fun g => by omega⟩), if_pos (show i + 1 ≤ k by omega), List.append_nil]
      exact take_one (by omega)
    · subst h
      rw [if_pos (Nat.le_refl _), if_pos rfl, if_neg (show ¬ i + 1 ≤ i by omega)]
      by_cases e : d = 1
      · subst e
        rw [if_neg (fun g => g.2 ⟨rfl, rfl⟩), List.drop_eq_nil_of_le (by simp; omega), List.append_nil]
      · have e : d = 0 := by omega
        subst e
        by_cases hl : i < xs.length
        · rw [if_pos ⟨hl, fun g => by omega⟩, ← drop_one hl (d := i + 0) (by omega), List.drop_eq_nil_of_le (by simp; omega)]
          simp
        · rw [if_neg (fun g => hl g.1), List.drop_eq_nil_of_le (by simp; omega), List.append_nil]
    · rw [if_neg (show ¬ i ≤ k by omega), if_neg (show ¬ i = k by omega), if_neg (show ¬ i + 1 ≤ k by omega), List.append_nil]
      by_cases hl : i < xs.length
      · rw [if_pos (show i < xs.length ∧ ¬ (d = 1 ∧ i = k) from ⟨hl, fun g => by omega⟩), ← drop_one hl (d := k + d) (by omega)]
        simp
      · rw [if_neg (fun g => hl g.1), List.append_nil, List.take_of_length_le (show xs.length ≤ i by omega), List.take_of_length_le (show xs.length ≤ i + 1 by omega)]
theorem putS_all (hd : d ≤ 1) (hk : k + d ≤ xs.length) : putS k d x xs (xs.length + 1) = putL k d x xs := by
  rw [putS_is hd hk _ (Nat.le_refl _), if_neg (by omega), List.take_of_length_le (show xs.length ≤ xs.length + 1 by omega)]
  rfl
theorem delS_is (hk : k < xs.length) : ∀ i, i ≤ xs.length → delS k xs i = if i ≤ k then xs.take i else xs.take k ++ (xs.take i).drop (k + 1)
  | 0, _ => by simp [delS]
  | i + 1, hi => by
    have ih := delS_is hk i (by omega)
    rw [delS, ih]
    rcases Nat.lt_trichotomy i k with h | h | h
    · rw [if_pos (by omega), if_neg (by omega), if_pos (by omega)]
      exact take_one (by omega)
    · subst h
      rw [if_pos (Nat.le_refl _), if_pos rfl, if_neg (by omega), List.drop_eq_nil_of_le (by simp; omega)]
    · rw [if_neg (by omega), if_neg (by omega), if_neg (by omega), ← drop_one (by omega) (d := k + 1) (by omega), List.append_assoc]
theorem delS_all (hk : k < xs.length) : delS k xs xs.length = delL k xs := by
  rw [delS_is hk _ (Nat.le_refl _), if_neg (by omega), List.take_length]
  rfl
theorem putL_len (hk : k ≤ xs.length) : (putL k d x xs).length ≤ xs.length + 1 := by
  unfold putL
  simp
  omega
theorem delL_len : (delL k xs).length ≤ xs.length := by
  unfold delL
  simp
  omega
theorem putL_mem {u : List UInt8} (h : u ∈ putL k d x xs) : u = x ∨ u ∈ xs := by
  unfold putL at h
  rw [List.mem_append, List.mem_cons] at h
  rcases h with h | h | h
  · exact .inr (List.mem_of_mem_take h)
  · exact .inl h
  · exact .inr (List.mem_of_mem_drop h)
theorem delL_mem {u : List UInt8} (h : u ∈ delL k xs) : u ∈ xs := by
  unfold delL at h
  rw [List.mem_append] at h
  rcases h with h | h
  · exact List.mem_of_mem_take h
  · exact List.mem_of_mem_drop h
end
/-- A leaf with val at key. -/
def Nd.put (n : Nd) (key val : List UInt8) : Nd := ⟨true, putL (atN n.keys key) (isN n.keys key).toNat key n.keys, putL (atN n.keys key) (isN n.keys key).toNat val n.vals, []⟩
/-- A leaf without key. -/
def Nd.del (n : Nd) (key : List UInt8) : Nd := ⟨true, delL (atN n.keys key) n.keys, delL (atN n.keys key) n.vals, []⟩
theorem small_all {ks : List (List UInt8)} {m : Nat} (h : ∀ k ∈ ks, k.length ≤ m) (hm : m ≤ 1000000) : ∀ j, j < ks.length → (ks.getD j []).length ≤ 1000000 := fun j hj => by
  have := h _ (getD_mem ks [] hj)
  omega
theorem Nd.Snd.keysMem {n : Nd} (h : n.Snd) : ∀ k ∈ n.keys, k.length ≤ 24 := fun k hk => by
  obtain ⟨j, hj, rfl⟩ := List.getElem_of_mem hk
  have := (h.keys j hj).1.len.2
  simpa [List.getD, hj] using this
theorem Nd.Snd.valsMem {n : Nd} (h : n.Snd) : ∀ k ∈ n.vals, k.length ≤ 24 := fun k hk => by
  obtain ⟨j, hj, rfl⟩ := List.getElem_of_mem hk
  have := h.vals j hj
  simpa [List.getD, hj] using this
theorem Nd.put_small {n : Nd} (h : n.Snd) {key val : List UInt8} (hk : key.length ≤ 24) (hv : val.length ≤ 24) : (n.put key val).Small :=
  ⟨small_all (m := 24) (fun u hu => by rcases putL_mem hu with e | e; (subst e; exact hk); exact h.keysMem u e) (by omega), small_all (m := 24) (fun u hu => by rcases putL_mem hu with e | e; (subst e; exact hv); exact h.valsMem u e) (by omega)⟩
theorem Nd.del_small {n : Nd} (h : n.Snd) {key : List UInt8} : (n.del key).Small :=
  ⟨small_all (m := 24) (fun u hu => h.keysMem u (delL_mem hu)) (by omega), small_all (m := 24) (fun u hu => h.valsMem u (delL_mem hu)) (by omega)⟩
end Go.Proofs.YtnmokkkbghlpbaaGreat
/-
  Both halves of a node, as plain lists.
-/
namespace Go.Proofs.YtnmokkkbghlpbaaGreat
def Nd.lower (n : Nd) (h : Nat) : Nd := if n.leaf then ⟨true, n.keys.take h, n.vals.take h, []⟩ else ⟨false, n.keys.take h, [], n.kids.take (h + 1)⟩
def Nd.upper (n : Nd) (h : Nat) : Nd := if n.leaf then ⟨true, n.keys.drop h, n.vals.drop h, []⟩ else ⟨false, n.keys.drop (h + 1), [], n.kids.drop (h + 1)⟩
theorem getD_takes {α : Type} (l : List α) (d : α) {k j : Nat} (h : j < k) : (l.take k).getD j d = l.getD j d := by
  simp only [List.getD_eq_getElem?_getD, List.getElem?_take, if_pos h]
theorem getD_drops {α : Type} (l : List α) (d : α) (k j : Nat) : (l.drop k).getD j d = l.getD (k + j) d := by
  simp only [List.getD_eq_getElem?_getD, List.getElem?_drop]
theorem KeysOk.take {ks : List (List UInt8)} (h : KeysOk ks) (k : Nat) : KeysOk (ks.take k) := fun j hj => by
  rw [List.length_take] at hj
  have := h j (by omega)
  refine ⟨?_, fun h0 => ?_⟩
  · rw [getD_takes ks [] (by omega)]; exact this.1
  · rw [getD_takes ks [] (by omega), getD_takes ks [] (by omega)]; exact this.2 h0
theorem KeysOk.drop {ks : List (List UInt8)} (h : KeysOk ks) (k : Nat) : KeysOk (ks.drop k) := fun j hj => by
  rw [List.length_drop] at hj
  have := h (k + j) (by omega)
  refine ⟨?_, fun h0 => ?_⟩
  · rw [getD_drops]; exact this.1
  · rw [getD_drops, getD_drops, show k + (j - 1) = k + j - 1 by omega]; exact this.2 (by omega)
theorem ValsOk.take {ks : List (List UInt8)} (h : ValsOk ks) (k : Nat) : ValsOk (ks.take k) := fun j hj => by
  rw [List.length_take] at hj
  rw [getD_takes ks [] (by omega)]; exact h j (by omega)
theorem ValsOk.drop {ks : List (List UInt8)} (h : ValsOk ks) (k : Nat) : ValsOk (ks.drop k) := fun j hj => by
  rw [List.length_drop] at hj
  rw [getD_drops]; exact h (k + j) (by omega)
theorem KidsOk.take {ks : List Int} (h : KidsOk ks) (k : Nat) : KidsOk (ks.take k) := fun j hj => by
  rw [List.length_take] at hj
  rw [getD_takes ks 0 (by omega)]; exact h j (by omega)
theorem KidsOk.drop {ks : List Int} (h : KidsOk ks) (k : Nat) : KidsOk (ks.drop k) := fun j hj => by
  rw [List.length_drop] at hj
  rw [getD_drops]; exact h (k + j) (by omega)
theorem Nd.Snd.lower {n : Nd} (h : n.Snd) {k : Nat} (h1 : 1 ≤ k) (h2 : k < n.keys.length) : (n.lower k).Snd := by
  unfold Nd.lower
  cases hl : n.leaf
  · obtain ⟨g1, g2, g3⟩ := h.ofNot hl
    exact ⟨h.keys.take k, fun j hj => absurd hj (Nat.not_lt_zero _), h.kids.take (k + 1), (fun e => by cases e), fun _ => ⟨rfl, by simp; omega, by simp; omega⟩⟩
  · obtain ⟨g1, g2⟩ := h.ofLeaf hl
    exact ⟨h.keys.take k, h.vals.take k, fun j hj => absurd hj (Nat.not_lt_zero _), fun _ => ⟨rfl, by simp; omega⟩, (fun e => by cases e)⟩
theorem Nd.Snd.upper {n : Nd} (h : n.Snd) {k : Nat} (h2 : k + (if n.leaf then 0 else 1) < n.keys.length) : (n.upper k).Snd := by
  unfold Nd.upper
  cases hl : n.leaf
  · rw [hl] at h2
    obtain ⟨g1, g2, g3⟩ := h.ofNot hl
    simp at h2
    exact ⟨h.keys.drop (k + 1), fun j hj => absurd hj (Nat.not_lt_zero _), h.kids.drop (k + 1), (fun e => by cases e), fun _ => ⟨rfl, by simp; omega, by simp; omega⟩⟩
  · obtain ⟨g1, g2⟩ := h.ofLeaf hl
    exact ⟨h.keys.drop k, h.vals.drop k, fun j hj => absurd hj (Nat.not_lt_zero _), fun _ => ⟨rfl, by simp; omega⟩, (fun e => by cases e)⟩
end Go.Proofs.YtnmokkkbghlpbaaGreat
/-
  Slices of slices as run equations, in whatever world: for regions that draw.
-/
namespace Go.Proofs.YtnmokkkbghlpbaaGreat
open Go.RowKit
section
variable {P : Program} {t e : TypeId} {i : TypeInfo}
theorem elem_of (ht : P.underlying t = some (.slice e)) : P.elem t = e := by simp [Program.elem, ht]
theorem cut_lh (ht : P.underlying t = some (.slice e)) (hi : P.info? e = some i) (hs : i.size = 1) (A : Option Addr) (n c lo hi' : Nat) (h1 : lo ≤ hi') (h2 : hi' ≤ c) (l h : Int) (hl : l = (lo : Int)) (hh : h = (hi' : Int)) :
    ∃ A', (A' = if c = lo then A else A.map (·.add lo)) ∧ ∀ w : World, (Instr.sliceAt t (.slice A n c) (some (.int .i64 l)) (some (.int .i64 h)) none).run P w = .ok (.slice A' (hi' - lo) (c - lo)) w := by
  refine ⟨_, rfl, fun w => ?_⟩
  subst hl hh
  have he := elem_of ht
  rw [run_sliceAt_slice w t _ _ _ _ (by rw [he]; exact ht), run_slice_lh w t A n c (by rw [he]; exact ht) .i64 .i64 _ _ (by omega) (by omega) (by omega), he]
  simp [sizeOf, typeInfo, hi, hs, sliced]
theorem cut_h (ht : P.underlying t = some (.slice e)) (hi : P.info? e = some i) (hs : i.size = 1) (A : Option Addr) (n c hi' : Nat) (h2 : hi' ≤ c) (h : Int) (hh : h = (hi' : Int)) :
    ∀ w : World, (Instr.sliceAt t (.slice A n c) none (some (.int .i64 h)) none).run P w = .ok (.slice A hi' c) w := fun w => by
  subst hh
  have he := elem_of ht
  rw [run_sliceAt_slice w t _ _ _ _ (by rw [he]; exact ht), run_slice_h w t A n c (by rw [he]; exact ht) .i64 _ (by omega) (by omega), he]
  simp [sizeOf, typeInfo, hi, hs, sliced]
  cases A <;> simp [Addr.add]
theorem cut_l (ht : P.underlying t = some (.slice e)) (hi : P.info? e = some i) (hs : i.size = 1) (A : Option Addr) (n c lo : Nat) (h1 : lo ≤ n) (l : Int) (hl : l = (lo : Int)) :
    ∃ A', (A' = if c = lo then A else A.map (·.add lo)) ∧ ∀ w : World, (Instr.sliceAt t (.slice A n c) (some (.int .i64 l)) none none).run P w = .ok (.slice A' (n - lo) (c - lo)) w := by
  refine ⟨_, rfl, fun w => ?_⟩
  subst hl
  have he := elem_of ht
  rw [run_sliceAt_slice w t _ _ _ _ (by rw [he]; exact ht), run_slice_l w t A n c (by rw [he]; exact ht) .i64 _ (by omega) (by omega), he]
  simp [sizeOf, typeInfo, hi, hs, sliced]
end
end Go.Proofs.YtnmokkkbghlpbaaGreat
/-
  Parts of a node's rows, as slices.
-/
namespace Go.Proofs.YtnmokkkbghlpbaaGreat
open Go.RowKit
section
variable {w : World} {B n c k n1 c1 n2 c2 n3 c3 : Nat} {A A1 A2 A3 : Option Addr} {ls : List (List UInt8)} {ds : List Int} {x : Nd}
theorem RdAll.behind (h : RdAll w B (.slice A n c) ls) (hk : k ≤ n) : RdAll w B (.slice (if c = k then A else A.map (·.add k)) (n - k) (c - k)) (ls.drop k) := by
  obtain ⟨vs, h1, hl, hel⟩ := h
  have hn : n = vs.length := by obtain ⟨A', c', e, _⟩ := h1; injection e
  have h2 := h1.cut (lo := k) (hi := n) hk (Nat.le_refl _)
  rw [hn, List.take_length] at h2
  rw [hn]
  refine ⟨vs.drop k, h2, by simp [hl], fun j u l a b => ?_⟩
  rw [List.getElem?_drop] at a b
  exact hel _ u l a b
theorem cellsI_take (l : List Int) (k : Nat) : (cellsI l).take k = cellsI (l.take k) := by simp [cellsI]
theorem cellsI_drop (l : List Int) (k : Nat) : (cellsI l).drop k = cellsI (l.drop k) := by simp [cellsI]
theorem Rd.uptoI (h : Rd w B (.slice A n c) (cellsI ds)) (hk : k ≤ n) : Rd w B (.slice A k c) (cellsI (ds.take k)) := by
  rw [← cellsI_take]; exact h.upto hk
theorem Rd.behindI (h : Rd w B (.slice A n c) (cellsI ds)) (hk : k ≤ n) : Rd w B (.slice (if c = k then A else A.map (·.add k)) (n - k) (c - k)) (cellsI (ds.drop k)) := by
  have hn : n = (cellsI ds).length := by obtain ⟨A', c', e, _⟩ := h; injection e
  have h2 := h.cut (lo := k) (hi := n) hk (Nat.le_refl _)
  rw [hn, List.take_length, ← hn, cellsI_drop] at h2
  exact h2
theorem NdIs.lowerLeaf (h : NdIs w B (.slice A1 n1 c1) (.slice A2 n2 c2) (.slice A3 n3 c3) x) (hl : x.leaf = true) (h1 : k ≤ n1) (h2 : k ≤ n2) : NdIs w B (.slice A1 k c1) (.slice A2 k c2) (.slice none 0 0) (x.lower k) := by
  rw [show x.lower k = ⟨true, x.keys.take k, x.vals.take k, []⟩ by unfold Nd.lower; rw [if_pos hl]]
  exact ⟨h.keys.upto h1, h.vals.upto h2, Rd.nil _ _⟩
theorem NdIs.upperLeaf (h : NdIs w B (.slice A1 n1 c1) (.slice A2 n2 c2) (.slice A3 n3 c3) x) (hl : x.leaf = true) (h1 : k ≤ n1) (h2 : k ≤ n2) : NdIs w B (.slice (if c1 = k then A1 else A1.map (·.add k)) (n1 - k) (c1 - k)) (.slice (if c2 = k then A2 else A2.map (·.add k)) (n2 - k) (c2 - k)) (.slice none 0 0) (x.upper k) := by
  rw [show x.upper k = ⟨true, x.keys.drop k, x.vals.drop k, []⟩ by unfold Nd.upper; rw [if_pos hl]]
  exact ⟨h.keys.behind h1, h.vals.behind h2, Rd.nil _ _⟩
theorem NdIs.lowerNot (h : NdIs w B (.slice A1 n1 c1) (.slice A2 n2 c2) (.slice A3 n3 c3) x) (hl : x.leaf = false) (h1 : k ≤ n1) (h3 : k + 1 ≤ n3) : NdIs w B (.slice A1 k c1) (.slice none 0 0) (.slice A3 (k + 1) c3) (x.lower k) := by
  rw [show x.lower k = ⟨false, x.keys.take k, [], x.kids.take (k + 1)⟩ by unfold Nd.lower; rw [hl]; rfl]
  exact ⟨h.keys.upto h1, ⟨[], Rd.nil _ _, rfl, fun _ _ _ a => by simp at a⟩, h.kids.uptoI h3⟩
theorem NdIs.upperNot (h : NdIs w B (.slice A1 n1 c1) (.slice A2 n2 c2) (.slice A3 n3 c3) x) (hl : x.leaf = false) (h1 : k + 1 ≤ n1) (h3 : k + 1 ≤ n3) : NdIs w B (.slice (if c1 = k + 1 then A1 else A1.map (·.add (k + 1))) (n1 - (k + 1)) (c1 - (k + 1))) (.slice none 0 0) (.slice (if c3 = k + 1 then A3 else A3.map (·.add (k + 1))) (n3 - (k + 1)) (c3 - (k + 1))) (x.upper k) := by
  rw [show x.upper k = ⟨false, x.keys.drop (k + 1), [], x.kids.drop (k + 1)⟩ by unfold Nd.upper; rw [hl]; rfl]
  exact ⟨h.keys.behind h1, ⟨[], Rd.nil _ _, rfl, fun _ _ _ a => by simp at a⟩, h.kids.behindI h3⟩
end
end Go.Proofs.YtnmokkkbghlpbaaGreat
/-
  A slice of a slice at work in a region; copied, as slices.
-/
namespace Go.Proofs.YtnmokkkbghlpbaaGreat
open Go.RowKit
theorem exec_cut {P : Program} {w w' : World} {o : Oper} {ρ : Operand → Value} {t : TypeId} {x : Operand} {lo hi : Option Operand} (ho : o.op = .slice t x lo hi none) {v r : Value} {l h : Option Value} (hx : ρ x = v) (hl : lo.map ρ = l) (hh : hi.map ρ = h) (hrun : (Instr.sliceAt t v l h none).run P w = .ok r w') : (execOp ρ o).run P w = .ok (.value r) w' := by
  unfold execOp
  simp only [ho, hx, hl, hh, Option.map_none, Sem.run_bind, hrun, Result.andThen_ok, Sem.run_pure]
theorem copied_as {n : Nd} {lf : Bool} {K V D : Value} {w : World} (hr : NdIs w w.heap.size K V D n) (hlf : n.leaf = lf) (hsh : n.Short 1000000) (hsm : n.Small) :
    Calls Tryz.prog 83 #[ndVal lf K V D] w fun e w' => ∃ A1 n1 c1 A2 n2 c2 A3 n3 c3, e = .returned (ndVal lf (.slice A1 n1 c1) (.slice A2 n2 c2) (.slice A3 n3 c3)) ∧ NdNew w' w.heap.size (.slice A1 n1 c1) (.slice A2 n2 c2) (.slice A3 n3 c3) n ∧ Below w.heap.size w w' := by
  subst hlf
  refine (copied_any hr hsh hsm).mono ?_
  rintro e w' ⟨K', V', D', rfl, hn, hb⟩
  obtain ⟨A1, n1, c1, A2, n2, c2, A3, n3, c3, rfl, rfl, rfl⟩ := hn.is.slices
  exact ⟨_, _, _, _, _, _, _, _, _, rfl, hn, hb⟩
end Go.Proofs.YtnmokkkbghlpbaaGreat
/-
  Put and Delete of package node at work.
-/
namespace Go.Proofs.YtnmokkkbghlpbaaGreat
open Go.RowKit
/-- The node in its block, and where the answer comes. -/
structure PtW (w0 w : World) (lf : Bool) (tK tV tD : Value) : Prop where
  top : w.heap[w0.heap.size]? = some (.cells #[.bool lf, tK, tV, tD] 126 (0, 0))
  out : w.heap[w0.heap.size + 1]? = some (.cells #[.bool false, .slice none 0 0, .slice none 0 0, .slice none 0 0] 126 (0, 0))
  below : Below w0.heap.size w0 w
section
variable {w0 w w' : World} {lf : Bool} {tK tV tD v kv a b : Value} {l r : List (List UInt8)} {key : List UInt8} {n : Nd}
theorem PtW.lt (h : PtW w0 w lf tK tV tD) : w0.heap.size + 1 < w.heap.size := (Array.getElem?_eq_some_iff.1 h.out).1
theorem PtW.kept (h : PtW w0 w lf tK tV tD) (hb : Below w.heap.size w w') : PtW w0 w' lf tK tV tD :=
  ⟨(hb.block _ (by have := h.lt; omega)).trans h.top, (hb.block _ h.lt).trans h.out, up h.below hb⟩
theorem PtW.box (h : PtW w0 w lf tK tV tD) : NdBox w w0.heap.size lf tK tV tD := box_of_top h.top
theorem PtW.start : PtW w0 ((w0.alloc (.cells #[.bool lf, tK, tV, tD] 126)).alloc (.cells #[.bool false, .slice none 0 0, .slice none 0 0, .slice none 0 0] 126)) lf tK tV tD := by
  obtain ⟨wa, ha⟩ : ∃ x, x = w0.alloc (.cells #[.bool lf, tK, tV, tD] 126) := ⟨_, rfl⟩
  have e1 : wa.heap.size = w0.heap.size + 1 := by rw [ha]; simp
  have ht : wa.heap[w0.heap.size]? = some (.cells #[.bool lf, tK, tV, tD] 126 (0, 0)) := by rw [ha]; exact heap_alloc_last _ _
  have l0 : Below w0.heap.size w0 wa := by rw [ha]; exact (Below.refl _ _).alloc (Nat.le_refl _) _
  have l2 := (Below.refl wa.heap.size wa).alloc (Nat.le_refl _) (.cells #[.bool false, .slice none 0 0, .slice none 0 0, .slice none 0 0] 126)
  rw [← ha]
  refine ⟨(l2.block _ (by omega)).trans ht, ?_, up l0 l2⟩
  rw [← e1]
  exact heap_alloc_last _ _
theorem PtW.setK (h : PtW w0 w lf tK tV tD) (v : Value) : PtW w0 (w.setCell ⟨w0.heap.size, 1, none⟩ v) lf v tV tD :=
  ⟨heap_setCell_same w w0.heap.size 1 _ _ v h.top, (heap_setCell_other w _ _ v (show w0.heap.size + 1 ≠ w0.heap.size by omega)).trans h.out, h.below.trans ((Below.refl _ _).setCell (p := ⟨w0.heap.size, 1, none⟩) (Nat.le_refl _) v)⟩
theorem PtW.setV (h : PtW w0 w lf tK tV tD) (v : Value) : PtW w0 (w.setCell ⟨w0.heap.size, 2, none⟩ v) lf tK v tD :=
  ⟨heap_setCell_same w w0.heap.size 2 _ _ v h.top, (heap_setCell_other w _ _ v (show w0.heap.size + 1 ≠ w0.heap.size by omega)).trans h.out, h.below.trans ((Below.refl _ _).setCell (p := ⟨w0.heap.size, 2, none⟩) (Nat.le_refl _) v)⟩
theorem PtW.rowSet (h : OwnT w w0.heap.size (w0.heap.size + 2) v l) (j : Nat) (u : Value) : OwnT (w.setCell ⟨w0.heap.size, j, none⟩ u) w0.heap.size (w0.heap.size + 2) v l :=
  h.keep (Fr.set (Nat.le_refl _) (by omega) j u) (RowB.none _ _) (by omega) (fun _ _ e => by cases e)
theorem PtW.rowKept (h : OwnT w w0.heap.size (w0.heap.size + 2) v l) (hb : Below w.heap.size w w') : OwnT w' w0.heap.size (w0.heap.size + 2) v l :=
  h.keep (Fr.below hb) (RowB.none _ _) (by omega) (fun _ _ e => by cases e)
/-- Two rows, one behind the other. -/
theorem PtW.cat (h : PtW w0 w lf tK tV tD) (ha : RdAll w0 w0.heap.size a l) (hb : RdAll w0 w0.heap.size b r) (hs : l.length + r.length ≤ 1000000) :
    Calls Tryz.prog 82 #[.slice (some ⟨w.heap.size, 0, none⟩) 2 2] (w.alloc (.cells #[a, b] 56)) fun e w' => ∃ A n c, e = .returned (.slice A n c) ∧ PtW w0 w' lf tK tV tD ∧ OwnT w' w0.heap.size (w0.heap.size + 2) (.slice A n c) (l ++ r) ∧ Below w.heap.size w w' := by
  have hsz := h.below.size
  have hr := RdRowsT.lit2 (base := w0.heap.size + 2) (by omega) w 56 ((ha.below h.below).rdT (base := w0.heap.size + 2) (Nat.le_refl _) hsz) ((hb.below h.below).rdT (base := w0.heap.size + 2) (Nat.le_refl _) hsz)
  have hba : Below w.heap.size w (w.alloc (.cells #[a, b] 56)) := (Below.refl _ _).alloc (Nat.le_refl _) _
  refine (concatT_any _ 2 2 _ _ _ _ hr (by have := h.lt; simp; omega) (by omega) (by omega) (by simpa using hs)).mono ?_
  rintro e w' ⟨v, rfl, ho, hb⟩
  rw [show [l, r].flatten = l ++ r by simp] at ho
  obtain ⟨ws, hm, _⟩ := id ho
  obtain ⟨A, c, rfl⟩ := hm.form
  exact ⟨A, _, c, rfl, (h.kept hba).kept hb, ho, up hba hb⟩
/-- Two rows, a text between them. -/
theorem PtW.catKey (h : PtW w0 w lf tK tV tD) (ha : RdAll w0 w0.heap.size a l) (hk : Rd w0 w0.heap.size kv (cellsB key)) (hb : RdAll w0 w0.heap.size b r) (hs : l.length + r.length ≤ 100000) :
    Calls Tryz.prog 82 #[.slice (some ⟨w.heap.size + 1, 0, none⟩) 3 3] ((w.alloc (.cells #[kv] 31)).alloc (.cells #[a, .slice (some ⟨w.heap.size, 0, none⟩) 1 1, b] 56)) fun e w' => ∃ A n c, e = .returned (.slice A n c) ∧ PtW w0 w' lf tK tV tD ∧ OwnT w' w0.heap.size (w0.heap.size + 2) (.slice A n c) (l ++ key :: r) ∧ Below w.heap.size w w' := by
  have hlt := h.lt
  have hl := RdT.lit1 ((hk.below h.below).txt (base := w0.heap.size + 2) (Nat.le_refl _) h.below.size) (by omega) 31
  obtain ⟨w1, hw1⟩ : ∃ x, x = w.alloc (.cells #[kv] 31) := ⟨_, rfl⟩
  have hb1 : Below w.heap.size w w1 := by rw [hw1]; exact (Below.refl _ _).alloc (Nat.le_refl _) _
  have e1 : w1.heap.size = w.heap.size + 1 := by rw [hw1]; simp
  have h1 := h.kept hb1
  rw [← hw1] at hl ⊢
  rw [← e1]
  have hsz := h1.below.size
  have hr := RdRowsT.lit3 (base := w0.heap.size + 2) (by omega) w1 56 ((ha.below h1.below).rdT (base := w0.heap.size + 2) (Nat.le_refl _) hsz) hl ((hb.below h1.below).rdT (base := w0.heap.size + 2) (Nat.le_refl _) hsz)
  have hba := (Below.refl w1.heap.size w1).alloc (Nat.le_refl _) (.cells #[a, .slice (some ⟨w.heap.size, 0, none⟩) 1 1, b] 56)
  refine (concatT_any _ 3 3 _ _ _ _ hr (by simp; omega) (by omega) (by omega) (by simp; omega)).mono ?_
  rintro e w' ⟨v, rfl, ho, hb⟩
  rw [show [l, [key], r].flatten = l ++ key :: r by simp] at ho
  obtain ⟨ws, hm, _⟩ := id ho
  obtain ⟨A, c, rfl⟩ := hm.form
  exact ⟨A, _, c, rfl, (h1.kept hba).kept hb, ho, up (up hb1 hba) hb⟩
end
/-- Whether a value may be put at a key. -/
def Nd.MayPut (n : Nd) (key val : List UInt8) : Prop := n.leaf = true ∧ n.Snd ∧ KeyOk key ∧ val.length ≤ 24
/-- Whether there is a key that may be deleted. -/
def Nd.MayDel (n : Nd) (key : List UInt8) : Prop := n.leaf = true ∧ n.Snd ∧ isN n.keys key = true
def PutOut (n' : Nd) (w : World) (e : Ending) (w' : World) : Prop := ∃ K V D, e = .returned (.tuple #[ndVal true K V D, .bool true]) ∧ NdNew w' w.heap.size K V D n' ∧ Below w.heap.size w w'
def NoOut (w : World) (e : Ending) (w' : World) : Prop := e = .returned (.tuple #[ndZero, .bool false]) ∧ Below w.heap.size w w'
set_option maxRecDepth 100000 in
set_option maxHeartbeats 2000000 in
theorem put_bad {n : Nd} {K V D kv vv : Value} {key val : List UInt8} {w : World} (hn : NdIs w w.heap.size K V D n) (hk : Rd w w.heap.size kv (cellsB key)) (hv : Rd w w.heap.size vv (cellsB val)) (hsh : n.Short 1000000) (hG : ¬ n.MayPut key val) :
    Calls Tryz.prog 56 #[ndVal n.leaf K V D, kv, vv] w fun e w' => NoOut w e w' := by
  obtain ⟨A1, c1, A2, c2, A3, c3, rfl, rfl, rfl⟩ := hn.form
  obtain ⟨lf, hlf⟩ : ∃ x, x = n.leaf := ⟨_, rfl⟩
  obtain ⟨a, ha⟩ : ∃ x, x = n.keys.length := ⟨_, rfl⟩
  obtain ⟨b, hb⟩ : ∃ x, x = n.vals.length := ⟨_, rfl⟩
  obtain ⟨d, hd⟩ : ∃ x, x = n.kids.length := ⟨_, rfl⟩
  have hs1 := fun (W : World) (hW : Below w.heap.size w W) => sound_any ((hn.below hW).more hW.size) (Nat.le_refl _) hsh
  obtain ⟨Ak, ck, rfl, -, -, -⟩ := hk.bytes
  obtain ⟨Av, cv, rfl, -, -, -⟩ := hv.bytes
  obtain ⟨kl, hkl⟩ : ∃ x, x = key.length := ⟨_, rfl⟩
  obtain ⟨vl, hvl⟩ : ∃ x, x = val.length := ⟨_, rfl⟩
  rw [← hkl, ← hvl]
  have hkm := fun (W : World) => keymay_any Ak kl ck W
  have hvm := fun (W : World) => valmay_any Av vl cv W
  have hG : lf = true → n.Snd → (1 ≤ kl ∧ kl ≤ 24) → ¬ vl ≤ 24 := fun h1 h2 h3 h4 => hG ⟨by rw [← hlf]; exact h1, h2, by unfold KeyOk; rw [← hkl]; exact h3, by rw [← hvl]; exact h4⟩
  rw [← ha, ← hb, ← hd, ← hlf] at hs1
  rw [← hlf, ← ha, ← hb, ← hd]
  have hst := PtW.start (w0 := w) (lf := lf) (tK := .slice A1 a c1) (tV := .slice A2 b c2) (tD := .slice A3 d c3)
  obtain ⟨x0, x1, x2, x3⟩ := hst.box
  have hc1 := hs1 _ hst.below
  have HSt := Lib.hid hst
  have HKm := Lib.hid hkm
  have HVm := Lib.hid hvm
  have HGG := Lib.hid hG
  obtain ⟨z0, z1, z2, z3, g0, g1, g2, g3⟩ := out_cells hst.out
  clear hn hst hs1 hlf ha hb hd hsh hk hv hkl hvl hkm hvm hG
  cases lf
  · have HFb := Lib.hid HSt.out.below
    clear HGG HSt
    go_enter Tryz.func56, Tryz.ntmps56
    go_wp2_with fail
    exact bodyPost_ret (v := .tuple #[ndZero, .bool false]) (by simp [results, Tryz.results56, go_sem, z0, z1, z2, z3]) rfl ⟨rfl, HFb.out⟩
  · clear z0 z1 z2 z3 g0 g1 g2 g3
    go_enter Tryz.func56, Tryz.ntmps56
    go_wp2_with fail
    refine hc1.mono ?_
    rintro e w1 ⟨rfl, hb1⟩
    have HS1 := Lib.hid (HSt.out.kept hb1)
    clear x0 x1 x2 x3 hc1 hb1 HSt
    cases h1 : sndB n
    · clear h1 HGG
      obtain ⟨y0, y1, y2, y3, f0, f1, f2, f3⟩ := out_cells HS1.out.out
      obtain ⟨W, hW⟩ : ∃ W, W = store4 w1 (w.heap.size + 1) false (.slice none 0 0) (.slice none 0 0) (.slice none 0 0) := ⟨_, rfl⟩
      have hbox := box_of_top (store4_top (lf := false) (K := .slice none 0 0) (V := .slice none 0 0) (D := .slice none 0 0) HS1.out.out)
      have hfb := HS1.out.below.trans (store4_below (w := w1) (lf := false) (K := .slice none 0 0) (V := .slice none 0 0) (D := .slice none 0 0) (show w.heap.size ≤ w.heap.size + 1 by omega))
      rw [← hW] at hbox hfb
      obtain ⟨q0, q1, q2, q3⟩ := hbox
      have HFb := Lib.hid hfb
      have HWW := Lib.hid hW
      clear hfb hW
      go_wp2_with fail
      have hW := HWW.out
      unfold store4 at hW
      rw [← hW]
      exact bodyPost_ret (v := .tuple #[ndZero, .bool false]) (by simp [results, Tryz.results56, go_sem, q0, q1, q2, q3]) rfl ⟨rfl, HFb.out⟩
    · have hG := HGG.out (by trivial) (sndB_iff.1 h1)
      have HG := Lib.hid hG
      have hkc := HKm.out w1
      clear h1 HGG hG
      go_wp2_with fail
      refine hkc.mono ?_
      rintro e w2 ⟨rfl, rfl⟩
      clear hkc
      by_cases hko : 1 ≤ kl ∧ kl ≤ 24
      · have hvo : ¬ vl ≤ 24 := HG.out hko
        rw [decide_eq_true hko]
        have hvc := HVm.out w1
        rw [decide_eq_false hvo] at hvc
        clear hko hvo HG
        go_wp2_with fail
        refine hvc.mono ?_
        rintro e w3 ⟨rfl, rfl⟩
        clear hvc
        obtain ⟨y0, y1, y2, y3, f0, f1, f2, f3⟩ := out_cells HS1.out.out
        obtain ⟨W, hW⟩ : ∃ W, W = store4 w1 (w.heap.size + 1) false (.slice none 0 0) (.slice none 0 0) (.slice none 0 0) := ⟨_, rfl⟩
        have hbox := box_of_top (store4_top (lf := false) (K := .slice none 0 0) (V := .slice none 0 0) (D := .slice none 0 0) HS1.out.out)
        have hfb := HS1.out.below.trans (store4_below (w := w1) (lf := false) (K := .slice none 0 0) (V := .slice none 0 0) (D := .slice none 0 0) (show w.heap.size ≤ w.heap.size + 1 by omega))
        rw [← hW] at hbox hfb
        obtain ⟨q0, q1, q2, q3⟩ := hbox
        have HFb := Lib.hid hfb
        have HWW := Lib.hid hW
        clear hfb hW
        go_wp2_with fail
        have hW := HWW.out
        unfold store4 at hW
        rw [← hW]
        exact bodyPost_ret (v := .tuple #[ndZero, .bool false]) (by simp [results, Tryz.results56, go_sem, q0, q1, q2, q3]) rfl ⟨rfl, HFb.out⟩
      · rw [decide_eq_false hko]
        clear hko HG
        obtain ⟨y0, y1, y2, y3, f0, f1, f2, f3⟩ := out_cells HS1.out.out
        obtain ⟨W, hW⟩ : ∃ W, W = store4 w1 (w.heap.size + 1) false (.slice none 0 0) (.slice none 0 0) (.slice none 0 0) := ⟨_, rfl⟩
        have hbox := box_of_top (store4_top (lf := false) (K := .slice none 0 0) (V := .slice none 0 0) (D := .slice none 0 0) HS1.out.out)
        have hfb := HS1.out.below.trans (store4_below (w := w1) (lf := false) (K := .slice none 0 0) (V := .slice none 0 0) (D := .slice none 0 0) (show w.heap.size ≤ w.heap.size + 1 by omega))
        rw [← hW] at hbox hfb
        obtain ⟨q0, q1, q2, q3⟩ := hbox
        have HFb := Lib.hid hfb
        have HWW := Lib.hid hW
        clear hfb hW
        go_wp2_with fail
        have hW := HWW.out
        unfold store4 at hW
        rw [← hW]
        exact bodyPost_ret (v := .tuple #[ndZero, .bool false]) (by simp [results, Tryz.results56, go_sem, q0, q1, q2, q3]) rfl ⟨rfl, HFb.out⟩
set_option maxRecDepth 100000 in
set_option maxHeartbeats 2000000 in
theorem del_bad {n : Nd} {K V D kv : Value} {key : List UInt8} {w : World} (hn : NdIs w w.heap.size K V D n) (hk : Rd w w.heap.size kv (cellsB key)) (hsh : n.Short 1000000) (hG : ¬ n.MayDel key) :
    Calls Tryz.prog 58 #[ndVal n.leaf K V D, kv] w fun e w' => NoOut w e w' := by
  obtain ⟨A1, c1, A2, c2, A3, c3, rfl, rfl, rfl⟩ := hn.form
  obtain ⟨lf, hlf⟩ : ∃ x, x = n.leaf := ⟨_, rfl⟩
  obtain ⟨a, ha⟩ : ∃ x, x = n.keys.length := ⟨_, rfl⟩
  obtain ⟨b, hb⟩ : ∃ x, x = n.vals.length := ⟨_, rfl⟩
  obtain ⟨d, hd⟩ : ∃ x, x = n.kids.length := ⟨_, rfl⟩
  have hs1 := fun (W : World) (hW : Below w.heap.size w W) => sound_any ((hn.below hW).more hW.size) (Nat.le_refl _) hsh
  have hfi := fun (W : World) (hW : Below w.heap.size w W) => find_any ((hn.below hW).more hW.size) (Nat.le_refl _) ((hk.below hW).more hW.size) (Nat.le_refl _) hsh.1
  obtain ⟨Ak, ck, rfl, -, -, -⟩ := hk.bytes
  obtain ⟨kl, hkl⟩ : ∃ x, x = key.length := ⟨_, rfl⟩
  obtain ⟨p, hp⟩ : ∃ x, x = belowN n.keys key n.keys.length := ⟨_, rfl⟩
  obtain ⟨th, hth⟩ : ∃ x, x = hasN n.keys key n.keys.length := ⟨_, rfl⟩
  have hp2 := belowN_le n.keys key n.keys.length
  have hsl := hsh.1
  rw [← hp, ← hkl, ← hth, ← ha, ← hb, ← hd, ← hlf] at hfi
  rw [← hp] at hp2
  rw [← hkl]
  have hG : lf = true → n.Snd → th = false := fun h1 h2 => by
    rw [← Bool.not_eq_true]
    exact fun h3 => hG ⟨by rw [← hlf]; exact h1, h2, by unfold isN; rw [← hth]; exact h3⟩
  rw [← ha, ← hb, ← hd, ← hlf] at hs1
  rw [← hlf, ← ha, ← hb, ← hd]
  have hst := PtW.start (w0 := w) (lf := lf) (tK := .slice A1 a c1) (tV := .slice A2 b c2) (tD := .slice A3 d c3)
  obtain ⟨x0, x1, x2, x3⟩ := hst.box
  have hc1 := hs1 _ hst.below
  have HSt := Lib.hid hst
  have HFi := Lib.hid hfi
  have HGG := Lib.hid hG
  have hp3 : p ≤ 1000000 := by omega
  obtain ⟨z0, z1, z2, z3, g0, g1, g2, g3⟩ := out_cells hst.out
  clear hn hst hs1 hlf ha hb hd hsh hk hkl hfi hG hp hth hp2 hsl
  cases lf
  · have HFb := Lib.hid HSt.out.below
    clear HGG HSt
    go_enter Tryz.func58, Tryz.ntmps58
    go_wp2_with fail
    exact bodyPost_ret (v := .tuple #[ndZero, .bool false]) (by simp [results, Tryz.results58, go_sem, z0, z1, z2, z3]) rfl ⟨rfl, HFb.out⟩
  · clear z0 z1 z2 z3 g0 g1 g2 g3
    go_enter Tryz.func58, Tryz.ntmps58
    go_wp2_with fail
    refine hc1.mono ?_
    rintro e w1 ⟨rfl, hb1⟩
    have HS1 := Lib.hid (HSt.out.kept hb1)
    clear x0 x1 x2 x3 hc1 hb1 HSt
    cases h1 : sndB n
    · clear h1 HGG
      obtain ⟨y0, y1, y2, y3, f0, f1, f2, f3⟩ := out_cells HS1.out.out
      obtain ⟨W, hW⟩ : ∃ W, W = store4 w1 (w.heap.size + 1) false (.slice none 0 0) (.slice none 0 0) (.slice none 0 0) := ⟨_, rfl⟩
      have hbox := box_of_top (store4_top (lf := false) (K := .slice none 0 0) (V := .slice none 0 0) (D := .slice none 0 0) HS1.out.out)
      have hfb := HS1.out.below.trans (store4_below (w := w1) (lf := false) (K := .slice none 0 0) (V := .slice none 0 0) (D := .slice none 0 0) (show w.heap.size ≤ w.heap.size + 1 by omega))
      rw [← hW] at hbox hfb
      obtain ⟨q0, q1, q2, q3⟩ := hbox
      have HFb := Lib.hid hfb
      have HWW := Lib.hid hW
      clear hfb hW
      go_wp2_with fail
      have hW := HWW.out
      unfold store4 at hW
      rw [← hW]
      exact bodyPost_ret (v := .tuple #[ndZero, .bool false]) (by simp [results, Tryz.results58, go_sem, q0, q1, q2, q3]) rfl ⟨rfl, HFb.out⟩
    · have hth := HGG.out (by trivial) (sndB_iff.1 h1)
      subst hth
      have hfc := HFi.out w1 HS1.out.below
      obtain ⟨x0, x1, x2, x3⟩ := HS1.out.box
      clear h1 HGG HFi
      go_wp2_with fail
      refine hfc.mono ?_
      rintro e w2 ⟨rfl, hb2⟩
      have HS2 := Lib.hid (HS1.out.kept hb2)
      clear hfc hb2 x0 x1 x2 x3 HS1
      obtain ⟨y0, y1, y2, y3, f0, f1, f2, f3⟩ := out_cells HS2.out.out
      obtain ⟨W, hW⟩ : ∃ W, W = store4 w2 (w.heap.size + 1) false (.slice none 0 0) (.slice none 0 0) (.slice none 0 0) := ⟨_, rfl⟩
      have hbox := box_of_top (store4_top (lf := false) (K := .slice none 0 0) (V := .slice none 0 0) (D := .slice none 0 0) HS2.out.out)
      have hfb := HS2.out.below.trans (store4_below (w := w2) (lf := false) (K := .slice none 0 0) (V := .slice none 0 0) (D := .slice none 0 0) (show w.heap.size ≤ w.heap.size + 1 by omega))
      rw [← hW] at hbox hfb
      obtain ⟨q0, q1, q2, q3⟩ := hbox
      have HFb := Lib.hid hfb
      have HWW := Lib.hid hW
      clear hfb hW
      go_wp2_with fail
      have hW := HWW.out
      unfold store4 at hW
      rw [← hW]
      exact bodyPost_ret (v := .tuple #[ndZero, .bool false]) (by simp [results, Tryz.results58, go_sem, q0, q1, q2, q3]) rfl ⟨rfl, HFb.out⟩
end Go.Proofs.YtnmokkkbghlpbaaGreat
