/-
  The document's cache: Put: contracts.
-/
import Derived.Test.YtfjcblppmoomdaaCrJ
namespace Go.Proofs.Ytfjcblppmoomdaa
open Go.RowKit
section
variable {w w' : World} {E E' : Nat → Prop} {q r bf cap : Nat} {rest : List Value} {P : List (Frm × Value)} {x y : Cch} {d d' dy : Dev}
/-- What is left of a Put into frame i. -/
def Frm.laid (f : Frm) (l : List UInt8) : Frm := { f with b := l, dirty := true, used := true }
set_option maxRecDepth 100000 in
theorem rput_arg (h : CDR w E q r bf cap rest x d) {no : Int} (hno : no < 0 ∨ (d.L.length : Int) ≤ no) (A : Option Addr) (cc : Nat) :
    Calls Try.prog 30 #[at0 r, .int .i64 no, .slice A 256 cc] w fun e w' => e = .returned (.int .i64 1) ∧ w = w' := by
  obtain ⟨A, c, c0⟩ := h.sectors
  obtain ⟨k0, _⟩ := h.cells
  obtain ⟨n, hn⟩ : ∃ n, n = d.L.length := ⟨_, rfl⟩
  rw [← hn] at c0 hno
  clear h hn
  by_cases h0 : no < 0
  · have t0 : decide (no < 0) = true := by simp [h0]
    go_enter Try.func30, Try.ntmps30
    go_wp2_with fail
    go_ret
    exact ⟨rfl, rfl⟩
  · have t0 : decide (no < 0) = false := by simp; omega
    have t1 : decide ((n : Int) ≤ no) = true := by simp; omega
    go_enter Try.func30, Try.ntmps30
    go_wp2_with fail
    go_ret
    exact ⟨rfl, rfl⟩
set_option maxRecDepth 100000 in
theorem rput_full (h : CDR w E q r bf cap rest x d) (hok : x.Ok d.L.length) (hn : d.n < 1000000) (hE : ∀ k, w.heap.size ≤ k → E k) {no : Int} (hno : 0 ≤ no ∧ no < d.L.length) (hh : x.holder no = none) {e0 : Int} {y : Cch} {dy : Dev} (hr : x.room d = (none, e0, y, dy)) (he : e0 = 3 ∨ e0 = 11) (A : Option Addr) (cc : Nat) :
    Calls Try.prog 30 #[at0 r, .int .i64 no, .slice A 256 cc] w fun e w' => e = .returned (.int .i64 e0) ∧ CDR w' E q r bf cap rest y dy ∧ Only E w w' := by
  have hA := h.at_ hok no
  rw [hh] at hA
  have hR := rroom_any h hok hn hE
  rw [hr] at hR
  obtain ⟨A, c, c0⟩ := h.sectors
  obtain ⟨k0, _⟩ := h.cells
  obtain ⟨n, hnn⟩ : ∃ n, n = d.L.length := ⟨_, rfl⟩
  rw [← hnn] at c0 hno
  have t0 : decide (no < 0) = false := by simp; omega
  have t1 : decide ((n : Int) ≤ no) = false := by simp; omega
  have HA : Hid (Calls Try.prog 38 #[at0 r, .int .i64 no] w fun e w' => e = .returned (.int .i64 (-1)) ∧ w = w') := Lib.hid hA
  have HR : Hid (Calls Try.prog 56 #[at0 r] w fun e w' => e = .returned (.tuple #[.int .i64 (-1), .int .i64 e0]) ∧ CDR w' E q r bf cap rest y dy ∧ Only E w w') := Lib.hid hR
  clear hA hR h hok hn hE hh hr hnn
  rcases he with rfl | rfl
  all_goals
    go_enter Try.func30, Try.ntmps30
    go_wp2_with (first
      | (go_at_call 38; refine HA.out.mono ?_; rintro e w1 ⟨rfl, rfl⟩)
      | (go_at_call 56; refine HR.out.mono ?_; rintro e w1 ⟨rfl, hc1, ho1⟩; have H3 := Lib.hid hc1; have H4 := Lib.hid ho1; clear hc1 ho1))
    go_ret
    exact ⟨rfl, H3.out, H4.out⟩
/-- A frame that holds nothing, told to be a sector's, with no bytes yet; and then filled. -/
theorem CDR.filled5 (h : CDR w E q r bf cap rest x d) (hE : ∀ k, w.heap.size ≤ k → E k) {i : Nat} (hi : i < x.L.length) (no : Int) {l : List UInt8} (hl : l.length = 256) {bb : Nat} (hb : w.heap[bb]? = some (.cells (cellsB l).toArray 5 (0, 0))) :
    let w3 := ((((w.setCell ⟨bf, i * 5, none⟩ (.int .i64 no)).setCell ⟨bf, i * 5 + 1, none⟩ (.int .i64 0)).setCell ⟨bf, i * 5 + 2, none⟩ (.bool false)).setCell ⟨bf, i * 5 + 3, none⟩ (.bool false)).setCell ⟨bf, i * 5 + 4, none⟩ (.slice none 0 0)
    ∃ gu cu w5, (Builtin.append_ #[51, 51] 51 #[.slice (some ⟨w3.heap.size, 0, none⟩) 0 0, .slice (some ⟨bb, 0, none⟩) 256 256]).run Try.prog (w3.drew.alloc (.cells #[] 5)) = .ok (.slice (some ⟨gu, 0, none⟩) 256 cu) w5 ∧
      w3.drew.cell? ⟨r, 1, none⟩ = some (.slice (some ⟨bf, 0, none⟩) x.L.length cap) ∧ (w3.drew.alloc (.cells #[] 5)).cell? ⟨r, 1, none⟩ = some (.slice (some ⟨bf, 0, none⟩) x.L.length cap) ∧ w5.cell? ⟨r, 1, none⟩ = some (.slice (some ⟨bf, 0, none⟩) x.L.length cap) ∧
      (∃ a, w5.cell? ⟨bf, i * 5 + 4, none⟩ = some a) ∧ w5.frozen? ⟨bf, i * 5 + 4, none⟩ = false ∧
      (∃ a, (w5.setCell ⟨bf, i * 5 + 4, none⟩ (.slice (some ⟨gu, 0, none⟩) 256 cu)).cell? ⟨bf, i * 5 + 2, none⟩ = some a) ∧ (w5.setCell ⟨bf, i * 5 + 4, none⟩ (.slice (some ⟨gu, 0, none⟩) 256 cu)).frozen? ⟨bf, i * 5 + 2, none⟩ = false ∧
      (∃ a, ((w5.setCell ⟨bf, i * 5 + 4, none⟩ (.slice (some ⟨gu, 0, none⟩) 256 cu)).setCell ⟨bf, i * 5 + 2, none⟩ (.bool true)).cell? ⟨bf, i * 5 + 3, none⟩ = some a) ∧ ((w5.setCell ⟨bf, i * 5 + 4, none⟩ (.slice (some ⟨gu, 0, none⟩) 256 cu)).setCell ⟨bf, i * 5 + 2, none⟩ (.bool true)).frozen? ⟨bf, i * 5 + 3, none⟩ = false ∧
      CDR (((w5.setCell ⟨bf, i * 5 + 4, none⟩ (.slice (some ⟨gu, 0, none⟩) 256 cu)).setCell ⟨bf, i * 5 + 2, none⟩ (.bool true)).setCell ⟨bf, i * 5 + 3, none⟩ (.bool true)) E q r bf cap rest ⟨x.L.set i ⟨true, no, l, true, true, 0⟩, x.hand⟩ d ∧
      Only E w (((w5.setCell ⟨bf, i * 5 + 4, none⟩ (.slice (some ⟨gu, 0, none⟩) 256 cu)).setCell ⟨bf, i * 5 + 2, none⟩ (.bool true)).setCell ⟨bf, i * 5 + 3, none⟩ (.bool true)) := by
  intro w3
  have hg : w.grownBy w3 (some bf) := ((((grown_cell _ _ _ _).trans (grown_cell _ _ _ _)).trans (grown_cell _ _ _ _)).trans (grown_cell _ _ _ _)).trans (grown_cell _ _ _ _)
  refine h.filled hE hi (f := ⟨true, no, l, true, true, 0⟩) ⟨rfl, rfl⟩ hl hg (fun P hc => ?_) (bb := bb) ?_
  · have hp : i < P.length := by rw [hc.len]; exact hi
    have hlr := crows_length P
    refine ⟨.bool false, .bool false, .slice none 0 0, ?_⟩
    have g1 := heap_setCell_same w bf (i * 5) _ _ (.int .i64 no) hc.frs
    have g2 := heap_setCell_same _ bf (i * 5 + 1) _ _ (.int .i64 0) g1
    have g3 := heap_setCell_same _ bf (i * 5 + 2) _ _ (.bool false) g2
    have g4 := heap_setCell_same _ bf (i * 5 + 3) _ _ (.bool false) g3
    have g5 := heap_setCell_same _ bf (i * 5 + 4) _ _ (.slice none 0 0) g4
    simp only [List.setIfInBounds_toArray] at g5
    rw [set5 (by rw [List.length_append, hlr]; omega)] at g5
    exact g5
  · obtain ⟨P, hc⟩ := h.cache
    have nb : some bb ≠ some bf := fun e => ne_of_kind hb hc.frs (by decide) (by injection e)
    exact (hg.block bb (Array.getElem?_eq_some_iff.1 hb).1 nb).trans hb
set_option maxRecDepth 100000 in
set_option maxHeartbeats 1600000 in
theorem rput_hit (h : CDR w E q r bf cap rest x d) (hok : x.Ok d.L.length) (hE : ∀ k, w.heap.size ≤ k → E k) {no : Int} (hno : 0 ≤ no ∧ no < d.L.length) {i : Nat} (hh : x.holder no = some i) {bb : Nat} {l : List UInt8} (hl : l.length = 256) (hb : w.heap[bb]? = some (.cells (cellsB l).toArray 5 (0, 0))) :
    Calls Try.prog 30 #[at0 r, .int .i64 no, .slice (some ⟨bb, 0, none⟩) 256 256] w fun e w' => e = .returned (.int .i64 0) ∧ CDR w' E q r bf cap rest ⟨x.L.set i ((x.fr i).laid l), x.hand⟩ d ∧ Only E w w' := by
  have hA := h.at_ hok no
  rw [hh] at hA
  obtain ⟨hi, hf, _⟩ := holder_lt hh
  obtain ⟨A, c, c0⟩ := h.sectors
  obtain ⟨k0, _, _, _, _, _, hs2, _⟩ := h.cells
  obtain ⟨gu, cu, w5, hrun, q1, q2, q3, ⟨_, z1⟩, y1, ⟨_, z2⟩, y2, ⟨_, z3⟩, y3, h1, h2⟩ := h.filled hE hi (f := (x.fr i).laid l) ⟨rfl, rfl⟩ hl (World.grownBy.refl w _) (fun P hc => by
    have hp : i < P.length := by rw [hc.len]; exact hi
    refine ⟨.bool (x.fr i).dirty, .bool (x.fr i).used, P[i].2, ?_⟩
    have e1 := crows_set hp P[i] rest
    rw [List.set_getElem_self] at e1
    have e2 : rfCells P[i] = [Value.int .i64 (rfNo ((x.fr i).laid l)), .int .i64 (((x.fr i).laid l).pins : Int), .bool (x.fr i).dirty, .bool (x.fr i).used, P[i].2] := by
      unfold rfCells
      rw [hc.fst_at hp]
      rfl
    rw [← e2, e1]
    exact hc.frs) (bb := bb) hb
  obtain ⟨n, hn⟩ : ∃ n, n = d.L.length := ⟨_, rfl⟩
  rw [← hn] at c0 hno
  obtain ⟨n', hn'⟩ : ∃ n', n' = x.L.length := ⟨_, rfl⟩
  have hin : i < n' := by rw [hn']; exact hi
  rw [← hn'] at q1 q2 q3 hs2
  have b0 : (0 : Int) ≤ (i : Int) := by omega
  have b1 : (i : Int) < (n' : Int) := by omega
  have b2 : ((i : Int)).toNat = i := by omega
  have t0 : decide (no < 0) = false := by simp; omega
  have t1 : decide ((n : Int) ≤ no) = false := by simp; omega
  have t2 : decide ((i : Int) < 0) = false := by simp
  rw [show atOf (some i) = (i : Int) from rfl] at hA
  have HA := Lib.hid hA
  have H1 := Lib.hid h1
  have H2 := Lib.hid h2
  have Hrun := Lib.hid hrun
  clear hA h1 h2 h hok hh hf hn hn' hi hrun hE hb hl
  go_enter Try.func30, Try.ntmps30
  go_wp2_with (first | (go_at_call 38; refine HA.out.mono ?_; rintro e w1 ⟨rfl, rfl⟩))
  refine wp_region_late (S := fun w' => w'.cell? ⟨r, 1, none⟩ = some (.slice (some ⟨bf, 0, none⟩) n' cap)) [18, 19, 20, 21, 22, 23, 24, 25, 26] (by kernel_rfl) q1 (fun hHeld => ?_)
  refine' anyU_take0 (i := 0) (oi := ⟨some 51, .move (.tmp 0), _, _, _, none⟩) (v := _) rfl (by kernel_rfl) (fun _ _ _ h => h) (Or.inl ⟨by rfl, ?hy1⟩) (by assumption) ?rest1
  case hy1 => (intro w hSw; go_simp <;> with_reducible rfl)
  case rest1 =>
  go_frame
  refine' anyU_take0 (i := 1) (oi := ⟨some 52, .nilCheck (.tmp 51), _, _, _, none⟩) (v := _) rfl (by kernel_rfl) (fun _ _ _ h => h) (Or.inl ⟨by rfl, ?hy2⟩) (by assumption) ?rest2
  case hy2 => (intro w hSw; go_simp <;> with_reducible rfl)
  case rest2 =>
  go_frame
  refine' anyU_take0 (i := 2) (oi := ⟨some 53, .fieldAddr 49 (.tmp 52) 1, _, _, _, none⟩) (v := _) rfl (by kernel_rfl) (fun _ _ _ h => h) (Or.inl ⟨by rfl, ?hy3⟩) (by assumption) ?rest3
  case hy3 => (intro w hSw; go_simp <;> with_reducible rfl)
  case rest3 =>
  go_frame
  refine' anyU_take (i := 3) (oi := ⟨some 54, .load 47 (.tmp 53), _, _, _, none⟩) (v := _) rfl (by kernel_rfl) (fun _ _ _ h => h) (Or.inl ⟨by rfl, ?hy4⟩) (by assumption) ?rest4
  case hy4 => (intro w hSw; obtain s1 := hSw; go_simp <;> with_reducible rfl)
  case rest4 =>
  go_frame
  refine' anyU_take0 (i := 4) (oi := ⟨some 55, .move (.tmp 7), _, _, _, none⟩) (v := _) rfl (by kernel_rfl) (fun _ _ _ h => h) (Or.inl ⟨by rfl, ?hy5⟩) (by assumption) ?rest5
  case hy5 => (intro w hSw; go_simp <;> with_reducible rfl)
  case rest5 =>
  go_frame
  refine' anyU_take0 (i := 5) (oi := ⟨some 56, .move (.tmp 0), _, _, _, none⟩) (v := _) rfl (by kernel_rfl) (fun _ _ _ h => h) (Or.inl ⟨by rfl, ?hy6⟩) (by assumption) ?rest6
  case hy6 => (intro w hSw; go_simp <;> with_reducible rfl)
  case rest6 =>
  go_frame
  refine' anyU_take0 (i := 6) (oi := ⟨some 57, .nilCheck (.tmp 56), _, _, _, none⟩) (v := _) rfl (by kernel_rfl) (fun _ _ _ h => h) (Or.inl ⟨by rfl, ?hy7⟩) (by assumption) ?rest7
  case hy7 => (intro w hSw; go_simp <;> with_reducible rfl)
  case rest7 =>
  go_frame
  refine' anyU_take0 (i := 7) (oi := ⟨some 58, .fieldAddr 49 (.tmp 57) 1, _, _, _, none⟩) (v := _) rfl (by kernel_rfl) (fun _ _ _ h => h) (Or.inl ⟨by rfl, ?hy8⟩) (by assumption) ?rest8
  case hy8 => (intro w hSw; go_simp <;> with_reducible rfl)
  case rest8 =>
  go_frame
  refine' anyU_take (i := 8) (oi := ⟨some 59, .load 47 (.tmp 58), _, _, _, none⟩) (v := _) rfl (by kernel_rfl) (fun _ _ _ h => h) (Or.inl ⟨by rfl, ?hy9⟩) (by assumption) ?rest9
  case hy9 => (intro w hSw; obtain s1 := hSw; go_simp <;> with_reducible rfl)
  case rest9 =>
  go_frame
  refine' anyU_take0 (i := 9) (oi := ⟨some 60, .move (.tmp 7), _, _, _, none⟩) (v := _) rfl (by kernel_rfl) (fun _ _ _ h => h) (Or.inl ⟨by rfl, ?hy10⟩) (by assumption) ?rest10
  case hy10 => (intro w hSw; go_simp <;> with_reducible rfl)
  case rest10 =>
  go_frame
  refine' anyU_take0 (i := 10) (oi := ⟨some 61, .move (.tmp 0), _, _, _, none⟩) (v := _) rfl (by kernel_rfl) (fun _ _ _ h => h) (Or.inl ⟨by rfl, ?hy11⟩) (by assumption) ?rest11
  case hy11 => (intro w hSw; go_simp <;> with_reducible rfl)
  case rest11 =>
  go_frame
  refine' anyU_take0 (i := 11) (oi := ⟨some 62, .nilCheck (.tmp 61), _, _, _, none⟩) (v := _) rfl (by kernel_rfl) (fun _ _ _ h => h) (Or.inl ⟨by rfl, ?hy12⟩) (by assumption) ?rest12
  case hy12 => (intro w hSw; go_simp <;> with_reducible rfl)
  case rest12 =>
  go_frame
  refine' anyU_take0 (i := 12) (oi := ⟨some 63, .fieldAddr 49 (.tmp 62) 1, _, _, _, none⟩) (v := _) rfl (by kernel_rfl) (fun _ _ _ h => h) (Or.inl ⟨by rfl, ?hy13⟩) (by assumption) ?rest13
  case hy13 => (intro w hSw; go_simp <;> with_reducible rfl)
  case rest13 =>
  go_frame
  refine' anyU_take (i := 13) (oi := ⟨some 64, .load 47 (.tmp 63), _, _, _, none⟩) (v := _) rfl (by kernel_rfl) (fun _ _ _ h => h) (Or.inl ⟨by rfl, ?hy14⟩) (by assumption) ?rest14
  case hy14 => (intro w hSw; obtain s1 := hSw; go_simp <;> with_reducible rfl)
  case rest14 =>
  go_frame
  refine' anyU_take0 (i := 14) (oi := ⟨some 65, .move (.tmp 7), _, _, _, none⟩) (v := _) rfl (by kernel_rfl) (fun _ _ _ h => h) (Or.inl ⟨by rfl, ?hy15⟩) (by assumption) ?rest15
  case hy15 => (intro w hSw; go_simp <;> with_reducible rfl)
  case rest15 =>
  go_frame
  refine' anyU_take0 (i := 16) (oi := ⟨some 67, .move (.tmp 2), _, _, _, none⟩) (v := _) rfl (by kernel_rfl) (fun _ _ _ h => h) (Or.inl ⟨by rfl, ?hy16⟩) (by assumption) ?rest16
  case hy16 => (intro w hSw; go_simp <;> with_reducible rfl)
  case rest16 =>
  go_frame
  refine anyU_ready (rs := [15]) (by kernel_rfl) (by simp) (AllU.cons (o := ⟨some 66, .buildSlice 51 0 #[], _, _, _, none⟩) rfl (fun K hK => ?_) (fun h => absurd h (by decide)) AllU.nil)
  rw [if_pos (by rfl)]
  go_simp
  refine hK.out _ _ (fun _ => q2) ?_
  clear hK K
  try go_frame
  refine anyU_ready (rs := [17]) (by kernel_rfl) (by simp) (AllU.cons (o := ⟨some 68, .call { callee := .builtin .append, args := #[.tmp 66, .tmp 67], argTypes := #[51, 51] }, _, _, _, none⟩) rfl (fun K hK => ?_) (fun h => absurd h (by decide)) AllU.nil)
  rw [if_pos (by rfl)]
  refine wp_run (.slice (some ⟨gu, 0, none⟩) 256 cu) w5 (exec_append (t := 51) (x := .tmp 66) (y := .tmp 67) rfl rfl rfl Hrun.out) ?_
  refine hK.out _ _ (fun _ => q3) ?_
  clear hK K
  go_frame
  refine anyU_ready (rs := [18]) (by kernel_rfl) (by simp) (AllU.cons (o := ⟨some 69, .indexAddr 47 (.tmp 54) (.tmp 55), _, _, _, none⟩) rfl (fun K hK => ?_) (fun _ => by kernel_rfl) AllU.nil)
  rw [if_pos (by rfl)]
  go_simp
  refine hK.out _ _ (fun h => absurd h (by decide)) ?_
  clear hK K
  try go_frame
  refine anyU_ready (rs := [19]) (by kernel_rfl) (by simp) (AllU.cons (o := ⟨some 70, .fieldAddr 78 (.tmp 69) 4, _, _, _, none⟩) rfl (fun K hK => ?_) (fun _ => by kernel_rfl) AllU.nil)
  rw [if_pos (by rfl)]
  go_simp
  refine hK.out _ _ (fun h => absurd h (by decide)) ?_
  clear hK K
  try go_frame
  refine anyU_ready (rs := [20]) (by kernel_rfl) (by simp) (AllU.cons (o := ⟨none, .store 51 (.tmp 70) (.tmp 68), _, _, _, none⟩) rfl (fun K hK => ?_) (fun _ => by kernel_rfl) AllU.nil)
  rw [if_pos (by rfl)]
  go_simp
  refine hK.out _ _ (fun h => absurd h (by decide)) ?_
  clear hK K
  try go_frame
  refine anyU_ready (rs := [21]) (by kernel_rfl) (by simp) (AllU.cons (o := ⟨some 71, .indexAddr 47 (.tmp 59) (.tmp 60), _, _, _, none⟩) rfl (fun K hK => ?_) (fun _ => by kernel_rfl) AllU.nil)
  rw [if_pos (by rfl)]
  go_simp
  refine hK.out _ _ (fun h => absurd h (by decide)) ?_
  clear hK K
  try go_frame
  refine anyU_ready (rs := [22]) (by kernel_rfl) (by simp) (AllU.cons (o := ⟨some 72, .fieldAddr 78 (.tmp 71) 2, _, _, _, none⟩) rfl (fun K hK => ?_) (fun _ => by kernel_rfl) AllU.nil)
  rw [if_pos (by rfl)]
  go_simp
  refine hK.out _ _ (fun h => absurd h (by decide)) ?_
  clear hK K
  try go_frame
  refine anyU_ready (rs := [23]) (by kernel_rfl) (by simp) (AllU.cons (o := ⟨none, .store 4 (.tmp 72) (.const (.bool true)), _, _, _, none⟩) rfl (fun K hK => ?_) (fun _ => by kernel_rfl) AllU.nil)
  rw [if_pos (by rfl)]
  go_simp
  refine hK.out _ _ (fun h => absurd h (by decide)) ?_
  clear hK K
  try go_frame
  refine anyU_ready (rs := [24]) (by kernel_rfl) (by simp) (AllU.cons (o := ⟨some 73, .indexAddr 47 (.tmp 64) (.tmp 65), _, _, _, none⟩) rfl (fun K hK => ?_) (fun _ => by kernel_rfl) AllU.nil)
  rw [if_pos (by rfl)]
  go_simp
  refine hK.out _ _ (fun h => absurd h (by decide)) ?_
  clear hK K
  try go_frame
  refine anyU_ready (rs := [25]) (by kernel_rfl) (by simp) (AllU.cons (o := ⟨some 74, .fieldAddr 78 (.tmp 73) 3, _, _, _, none⟩) rfl (fun K hK => ?_) (fun _ => by kernel_rfl) AllU.nil)
  rw [if_pos (by rfl)]
  go_simp
  refine hK.out _ _ (fun h => absurd h (by decide)) ?_
  clear hK K
  try go_frame
  refine anyU_ready (rs := [26]) (by kernel_rfl) (by simp) (AllU.cons (o := ⟨none, .store 4 (.tmp 74) (.const (.bool true)), _, _, _, none⟩) rfl (fun K hK => ?_) (fun _ => by kernel_rfl) AllU.nil)
  rw [if_pos (by rfl)]
  go_simp
  refine hK.out _ _ (fun h => absurd h (by decide)) ?_
  clear hK K
  try go_frame
  refine anyU_done (by kernel_rfl) ?_ _
  go_wp2_with fail
  go_ret
  exact ⟨rfl, H1.out, H2.out⟩
set_option maxRecDepth 100000 in
set_option maxHeartbeats 1600000 in
theorem rput_ok (h : CDR w E q r bf cap rest x d) (hok : x.Ok d.L.length) (hn : d.n < 1000000) (hE : ∀ k, w.heap.size ≤ k → E k) {no : Int} (hno : 0 ≤ no ∧ no < d.L.length) (hh : x.holder no = none) {i : Nat} (hr : x.room d = (some i, 0, y, dy)) (hi : i < y.L.length) {bb : Nat} {l : List UInt8} (hl : l.length = 256) (hb : w.heap[bb]? = some (.cells (cellsB l).toArray 5 (0, 0))) (hbE : ¬ E bb) :
    Calls Try.prog 30 #[at0 r, .int .i64 no, .slice (some ⟨bb, 0, none⟩) 256 256] w fun e w' => e = .returned (.int .i64 0) ∧ CDR w' E q r bf cap rest ⟨y.L.set i ⟨true, no, l, true, true, 0⟩, y.hand⟩ dy ∧ Only E w w' := by
  have hA := h.at_ hok no
  rw [hh] at hA
  have hR := rroom_any h hok hn hE
  rw [hr] at hR
  obtain ⟨A, c, c0⟩ := h.sectors
  obtain ⟨k0, _, _, _, _, _, hs2, _⟩ := h.cells
  obtain ⟨n, hnn⟩ : ∃ n, n = d.L.length := ⟨_, rfl⟩
  rw [← hnn] at c0 hno
  obtain ⟨n', hn'⟩ : ∃ n', n' = y.L.length := ⟨_, rfl⟩
  have hF : ∀ w2, CDR w2 E q r bf cap rest y dy → Only E w w2 → _ := fun w2 a ho => (⟨a.cells.2.1, a.cells.2.2.2.2.1, a.cells.2.2.2.2.2.2.1, a.frame hi, a.cellZ hi,
    ⟨((((w2.setCell ⟨bf, i * 5, none⟩ (.int .i64 no)).setCell ⟨bf, i * 5 + 1, none⟩ (.int .i64 0)).setCell ⟨bf, i * 5 + 2, none⟩ (.bool false)).setCell ⟨bf, i * 5 + 3, none⟩ (.bool false)).setCell ⟨bf, i * 5 + 4, none⟩ (.slice none 0 0), rfl⟩,
    a.filled5 (fun k hk => hE k (Nat.le_trans ho.size hk)) hi no hl (show w2.heap[bb]? = _ from (ho.block bb (Array.getElem?_eq_some_iff.1 hb).1 hbE).trans hb)⟩ : _ ∧ _ ∧ _ ∧ _ ∧ _ ∧ (∃ w3, w3 = ((((w2.setCell ⟨bf, i * 5, none⟩ (.int .i64 no)).setCell ⟨bf, i * 5 + 1, none⟩ (.int .i64 0)).setCell ⟨bf, i * 5 + 2, none⟩ (.bool false)).setCell ⟨bf, i * 5 + 3, none⟩ (.bool false)).setCell ⟨bf, i * 5 + 4, none⟩ (.slice none 0 0)) ∧ _)
  have HF := Lib.hid hF
  rw [← hn'] at HF
  have hin : i < n' := by rw [hn']; exact hi
  have b0 : (0 : Int) ≤ (i : Int) := by omega
  have b1 : (i : Int) < (n' : Int) := by omega
  have b2 : ((i : Int)).toNat = i := by omega
  have t0 : decide (no < 0) = false := by simp; omega
  have t1 : decide ((n : Int) ≤ no) = false := by simp; omega
  have t2 : decide ((i : Int) < 0) = false := by simp
  have HA : Hid (Calls Try.prog 38 #[at0 r, .int .i64 no] w fun e w' => e = .returned (.int .i64 (-1)) ∧ w = w') := Lib.hid hA
  have HR : Hid (Calls Try.prog 56 #[at0 r] w fun e w' => e = .returned (.tuple #[.int .i64 (i : Int), .int .i64 0]) ∧ CDR w' E q r bf cap rest y dy ∧ Only E w w') := Lib.hid hR
  clear hA hR h hok hn hE hh hr hnn hl hb hn' hi hF hbE
  go_enter Try.func30, Try.ntmps30
  go_wp2_with (first
    | (go_at_call 38; refine HA.out.mono ?_; rintro e w1 ⟨rfl, rfl⟩)
    | (go_at_call 56; refine HR.out.mono ?_; rintro e w2 ⟨rfl, hc2, ho2⟩; obtain ⟨v1, vf, vs, ⟨p0, p1, p2, p3⟩, ⟨_, p4⟩, ⟨w3, hw3⟩, hfill⟩ := HF.out w2 hc2 ho2; have Hw3 := Lib.hid hw3; rw [← hw3] at hfill; have Hfill := Lib.hid hfill; have HO := Lib.hid ho2; have g0 := vf (i * 5); have g1 := vf (i * 5 + 1); have g2 := vf (i * 5 + 2); have g3 := vf (i * 5 + 3); have g4 := vf (i * 5 + 4); clear vf hfill hw3 hc2 ho2))
  rw [← Hw3.out]
  obtain ⟨gu, cu, w5, hrun, q1, q2, q3, ⟨_, z1⟩, y1, ⟨_, z2⟩, y2, ⟨_, z3⟩, y3, h1, h2⟩ := Hfill.out
  have H1 := Lib.hid h1
  have H2 := Lib.hid (HO.out.trans h2)
  have Hrun := Lib.hid hrun
  clear Hfill h1 h2 hrun Hw3 HO v1 vs p0 p1 p2 p3 p4 g0 g1 g2 g3 g4 HF HR HA c0 k0
  refine wp_region_late (S := fun w' => w'.cell? ⟨r, 1, none⟩ = some (.slice (some ⟨bf, 0, none⟩) n' cap)) [18, 19, 20, 21, 22, 23, 24, 25, 26] (by kernel_rfl) q1 (fun hHeld => ?_)
  refine' anyU_take0 (i := 0) (oi := ⟨some 51, .move (.tmp 0), _, _, _, none⟩) (v := _) rfl (by kernel_rfl) (fun _ _ _ h => h) (Or.inl ⟨by rfl, ?hy17⟩) (by assumption) ?rest17
  case hy17 => (intro w hSw; go_simp <;> with_reducible rfl)
  case rest17 =>
  go_frame
  refine' anyU_take0 (i := 1) (oi := ⟨some 52, .nilCheck (.tmp 51), _, _, _, none⟩) (v := _) rfl (by kernel_rfl) (fun _ _ _ h => h) (Or.inl ⟨by rfl, ?hy18⟩) (by assumption) ?rest18
  case hy18 => (intro w hSw; go_simp <;> with_reducible rfl)
  case rest18 =>
  go_frame
  refine' anyU_take0 (i := 2) (oi := ⟨some 53, .fieldAddr 49 (.tmp 52) 1, _, _, _, none⟩) (v := _) rfl (by kernel_rfl) (fun _ _ _ h => h) (Or.inl ⟨by rfl, ?hy19⟩) (by assumption) ?rest19
  case hy19 => (intro w hSw; go_simp <;> with_reducible rfl)
  case rest19 =>
  go_frame
  refine' anyU_take (i := 3) (oi := ⟨some 54, .load 47 (.tmp 53), _, _, _, none⟩) (v := _) rfl (by kernel_rfl) (fun _ _ _ h => h) (Or.inl ⟨by rfl, ?hy20⟩) (by assumption) ?rest20
  case hy20 => (intro w hSw; obtain s1 := hSw; go_simp <;> with_reducible rfl)
  case rest20 =>
  go_frame
  refine' anyU_take0 (i := 4) (oi := ⟨some 55, .move (.tmp 7), _, _, _, none⟩) (v := _) rfl (by kernel_rfl) (fun _ _ _ h => h) (Or.inl ⟨by rfl, ?hy21⟩) (by assumption) ?rest21
  case hy21 => (intro w hSw; go_simp <;> with_reducible rfl)
  case rest21 =>
  go_frame
  refine' anyU_take0 (i := 5) (oi := ⟨some 56, .move (.tmp 0), _, _, _, none⟩) (v := _) rfl (by kernel_rfl) (fun _ _ _ h => h) (Or.inl ⟨by rfl, ?hy22⟩) (by assumption) ?rest22
  case hy22 => (intro w hSw; go_simp <;> with_reducible rfl)
  case rest22 =>
  go_frame
  refine' anyU_take0 (i := 6) (oi := ⟨some 57, .nilCheck (.tmp 56), _, _, _, none⟩) (v := _) rfl (by kernel_rfl) (fun _ _ _ h => h) (Or.inl ⟨by rfl, ?hy23⟩) (by assumption) ?rest23
  case hy23 => (intro w hSw; go_simp <;> with_reducible rfl)
  case rest23 =>
  go_frame
  refine' anyU_take0 (i := 7) (oi := ⟨some 58, .fieldAddr 49 (.tmp 57) 1, _, _, _, none⟩) (v := _) rfl (by kernel_rfl) (fun _ _ _ h => h) (Or.inl ⟨by rfl, ?hy24⟩) (by assumption) ?rest24
  case hy24 => (intro w hSw; go_simp <;> with_reducible rfl)
  case rest24 =>
  go_frame
  refine' anyU_take (i := 8) (oi := ⟨some 59, .load 47 (.tmp 58), _, _, _, none⟩) (v := _) rfl (by kernel_rfl) (fun _ _ _ h => h) (Or.inl ⟨by rfl, ?hy25⟩) (by assumption) ?rest25
  case hy25 => (intro w hSw; obtain s1 := hSw; go_simp <;> with_reducible rfl)
  case rest25 =>
  go_frame
  refine' anyU_take0 (i := 9) (oi := ⟨some 60, .move (.tmp 7), _, _, _, none⟩) (v := _) rfl (by kernel_rfl) (fun _ _ _ h => h) (Or.inl ⟨by rfl, ?hy26⟩) (by assumption) ?rest26
  case hy26 => (intro w hSw; go_simp <;> with_reducible rfl)
  case rest26 =>
  go_frame
  refine' anyU_take0 (i := 10) (oi := ⟨some 61, .move (.tmp 0), _, _, _, none⟩) (v := _) rfl (by kernel_rfl) (fun _ _ _ h => h) (Or.inl ⟨by rfl, ?hy27⟩) (by assumption) ?rest27
  case hy27 => (intro w hSw; go_simp <;> with_reducible rfl)
  case rest27 =>
  go_frame
  refine' anyU_take0 (i := 11) (oi := ⟨some 62, .nilCheck (.tmp 61), _, _, _, none⟩) (v := _) rfl (by kernel_rfl) (fun _ _ _ h => h) (Or.inl ⟨by rfl, ?hy28⟩) (by assumption) ?rest28
  case hy28 => (intro w hSw; go_simp <;> with_reducible rfl)
  case rest28 =>
  go_frame
  refine' anyU_take0 (i := 12) (oi := ⟨some 63, .fieldAddr 49 (.tmp 62) 1, _, _, _, none⟩) (v := _) rfl (by kernel_rfl) (fun _ _ _ h => h) (Or.inl ⟨by rfl, ?hy29⟩) (by assumption) ?rest29
  case hy29 => (intro w hSw; go_simp <;> with_reducible rfl)
  case rest29 =>
  go_frame
  refine' anyU_take (i := 13) (oi := ⟨some 64, .load 47 (.tmp 63), _, _, _, none⟩) (v := _) rfl (by kernel_rfl) (fun _ _ _ h => h) (Or.inl ⟨by rfl, ?hy30⟩) (by assumption) ?rest30
  case hy30 => (intro w hSw; obtain s1 := hSw; go_simp <;> with_reducible rfl)
  case rest30 =>
  go_frame
  refine' anyU_take0 (i := 14) (oi := ⟨some 65, .move (.tmp 7), _, _, _, none⟩) (v := _) rfl (by kernel_rfl) (fun _ _ _ h => h) (Or.inl ⟨by rfl, ?hy31⟩) (by assumption) ?rest31
  case hy31 => (intro w hSw; go_simp <;> with_reducible rfl)
  case rest31 =>
  go_frame
  refine' anyU_take0 (i := 16) (oi := ⟨some 67, .move (.tmp 2), _, _, _, none⟩) (v := _) rfl (by kernel_rfl) (fun _ _ _ h => h) (Or.inl ⟨by rfl, ?hy32⟩) (by assumption) ?rest32
  case hy32 => (intro w hSw; go_simp <;> with_reducible rfl)
  case rest32 =>
  go_frame
  refine anyU_ready (rs := [15]) (by kernel_rfl) (by simp) (AllU.cons (o := ⟨some 66, .buildSlice 51 0 #[], _, _, _, none⟩) rfl (fun K hK => ?_) (fun h => absurd h (by decide)) AllU.nil)
  rw [if_pos (by rfl)]
  go_simp
  refine hK.out _ _ (fun _ => q2) ?_
  clear hK K
  try go_frame
  refine anyU_ready (rs := [17]) (by kernel_rfl) (by simp) (AllU.cons (o := ⟨some 68, .call { callee := .builtin .append, args := #[.tmp 66, .tmp 67], argTypes := #[51, 51] }, _, _, _, none⟩) rfl (fun K hK => ?_) (fun h => absurd h (by decide)) AllU.nil)
  rw [if_pos (by rfl)]
  refine wp_run (.slice (some ⟨gu, 0, none⟩) 256 cu) w5 (exec_append (t := 51) (x := .tmp 66) (y := .tmp 67) rfl rfl rfl Hrun.out) ?_
  refine hK.out _ _ (fun _ => q3) ?_
  clear hK K
  go_frame
  refine anyU_ready (rs := [18]) (by kernel_rfl) (by simp) (AllU.cons (o := ⟨some 69, .indexAddr 47 (.tmp 54) (.tmp 55), _, _, _, none⟩) rfl (fun K hK => ?_) (fun _ => by kernel_rfl) AllU.nil)
  rw [if_pos (by rfl)]
  go_simp
  refine hK.out _ _ (fun h => absurd h (by decide)) ?_
  clear hK K
  try go_frame
  refine anyU_ready (rs := [19]) (by kernel_rfl) (by simp) (AllU.cons (o := ⟨some 70, .fieldAddr 78 (.tmp 69) 4, _, _, _, none⟩) rfl (fun K hK => ?_) (fun _ => by kernel_rfl) AllU.nil)
  rw [if_pos (by rfl)]
  go_simp
  refine hK.out _ _ (fun h => absurd h (by decide)) ?_
  clear hK K
  try go_frame
  refine anyU_ready (rs := [20]) (by kernel_rfl) (by simp) (AllU.cons (o := ⟨none, .store 51 (.tmp 70) (.tmp 68), _, _, _, none⟩) rfl (fun K hK => ?_) (fun _ => by kernel_rfl) AllU.nil)
  rw [if_pos (by rfl)]
  go_simp
  refine hK.out _ _ (fun h => absurd h (by decide)) ?_
  clear hK K
  try go_frame
  refine anyU_ready (rs := [21]) (by kernel_rfl) (by simp) (AllU.cons (o := ⟨some 71, .indexAddr 47 (.tmp 59) (.tmp 60), _, _, _, none⟩) rfl (fun K hK => ?_) (fun _ => by kernel_rfl) AllU.nil)
  rw [if_pos (by rfl)]
  go_simp
  refine hK.out _ _ (fun h => absurd h (by decide)) ?_
  clear hK K
  try go_frame
  refine anyU_ready (rs := [22]) (by kernel_rfl) (by simp) (AllU.cons (o := ⟨some 72, .fieldAddr 78 (.tmp 71) 2, _, _, _, none⟩) rfl (fun K hK => ?_) (fun _ => by kernel_rfl) AllU.nil)
  rw [if_pos (by rfl)]
  go_simp
  refine hK.out _ _ (fun h => absurd h (by decide)) ?_
  clear hK K
  try go_frame
  refine anyU_ready (rs := [23]) (by kernel_rfl) (by simp) (AllU.cons (o := ⟨none, .store 4 (.tmp 72) (.const (.bool true)), _, _, _, none⟩) rfl (fun K hK => ?_) (fun _ => by kernel_rfl) AllU.nil)
  rw [if_pos (by rfl)]
  go_simp
  refine hK.out _ _ (fun h => absurd h (by decide)) ?_
  clear hK K
  try go_frame
  refine anyU_ready (rs := [24]) (by kernel_rfl) (by simp) (AllU.cons (o := ⟨some 73, .indexAddr 47 (.tmp 64) (.tmp 65), _, _, _, none⟩) rfl (fun K hK => ?_) (fun _ => by kernel_rfl) AllU.nil)
  rw [if_pos (by rfl)]
  go_simp
  refine hK.out _ _ (fun h => absurd h (by decide)) ?_
  clear hK K
  try go_frame
  refine anyU_ready (rs := [25]) (by kernel_rfl) (by simp) (AllU.cons (o := ⟨some 74, .fieldAddr 78 (.tmp 73) 3, _, _, _, none⟩) rfl (fun K hK => ?_) (fun _ => by kernel_rfl) AllU.nil)
  rw [if_pos (by rfl)]
  go_simp
  refine hK.out _ _ (fun h => absurd h (by decide)) ?_
  clear hK K
  try go_frame
  refine anyU_ready (rs := [26]) (by kernel_rfl) (by simp) (AllU.cons (o := ⟨none, .store 4 (.tmp 74) (.const (.bool true)), _, _, _, none⟩) rfl (fun K hK => ?_) (fun _ => by kernel_rfl) AllU.nil)
  rw [if_pos (by rfl)]
  go_simp
  refine hK.out _ _ (fun h => absurd h (by decide)) ?_
  clear hK K
  try go_frame
  refine anyU_done (by kernel_rfl) ?_ _
  go_wp2_with fail
  go_ret
  exact ⟨rfl, H1.out, H2.out⟩
end
end Go.Proofs.Ytfjcblppmoomdaa
