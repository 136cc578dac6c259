/-
  What is cut off a node: texts, Few of layer 7, by contracts.
-/
import Derived.Test.YtceefoopehoalaaNdLives
namespace Go.Proofs.Ytceefoopehoalaa
open Go.RowKit
theorem wpList_append_T {w : World} {ops : Array Oper} {rest : List Oper} {o : Oper} {a : Act} {Q : Exit → Act → World → Prop} {B0 base : Nat} (hgd : o.guard = none) (s x : Operand)
    (ho : o.op = .call { callee := .builtin .append, args := #[s, x], argTypes := #[24, 24] }) (hty : o.type = 24)
    (v : Value) (ls : List (List UInt8)) (hs : a.eval s = v) (hown : OwnT w B0 base v ls) (y : Value) (ms : List (List UInt8)) (hx : a.eval x = y) (hr : RdT w B0 base y ms)
    (hbound : ls.length + ms.length ≤ 1000000000) (hbase : base ≤ w.heap.size) (hB : B0 ≤ base)
    (h : ∀ A n c w', OwnT w' B0 base (.slice A n c) (ls ++ ms) → Below base w w' → w.grownBy w' v.ownBlock → wpList Try.prog ops Q rest (a.put o.dst (.slice A n c)) w') : wpList Try.prog ops Q (o :: rest) a w := by
  refine wpList_plain hgd fun K hK => ?_
  obtain ⟨A, n, c, w', hrun, h1, h2, h3, _⟩ := hown.append hr hbound hbase hB
  unfold Oper.wp execOp
  simp only [ho, hty, resolve, invoke, builtin, Sem.run_bind, Sem.run_pure, Result.andThen_ok, List.map_toArray, List.map_cons, List.map_nil, hs, hx, hrun]
  exact hK _ _ (h A n c w' h1 h3 h2)
/-- What is left of texts. -/
def cutL (ls : List (List UInt8)) : List (List UInt8) := (ls.take 40).map fun l => l.take 26
theorem cutL_len (ls : List (List UInt8)) : (cutL ls).length ≤ 40 := by unfold cutL; simp; omega
theorem cutL_each (ls : List (List UInt8)) : ∀ l ∈ cutL ls, l.length ≤ 26 := by
  intro l hl
  obtain ⟨m, _, rfl⟩ := List.mem_map.1 hl
  simp; omega
theorem cutL_same {ls : List (List UInt8)} (h : ls.length ≤ 40) (h2 : ∀ l ∈ ls, l.length ≤ 26) : cutL ls = ls := by
  unfold cutL
  rw [List.take_of_length_le h]
  have : ∀ l ∈ ls, l.take 26 = l := fun l hl => List.take_of_length_le (h2 l hl)
  rw [List.map_congr_left this, List.map_id']
theorem cutL_more (ls : List (List UInt8)) {k : Nat} (h : k < ls.length) : ((ls.take k).map fun l => l.take 26) ++ [(ls.getD k []).take 26] = (ls.take (k + 1)).map fun l => l.take 26 := by
  rw [← take_more ls [] h]; simp
set_option maxHeartbeats 400000 in
theorem texts_any (A : Option Addr) (n c : Nat) (ls : List (List UInt8)) (w : World) (B : Nat) (hr : RdAll w B (.slice A n c) ls) (hB : B ≤ w.heap.size) :
    Calls Try.prog 34 #[.slice A n c] w fun e w' => ∃ A' n' c', e = .returned (.slice A' n' c') ∧ OwnT w' 0 w.heap.size (.slice A' n' c') (cutL ls) ∧ Below w.heap.size w w' := by
  obtain ⟨hl, hnc, hcm⟩ := hr.len
  have hmore := fun k (h : k < n) => cutL_more ls (k := k) (by omega)
  have hall : ∀ k, k ≤ n → k ≤ 40 → (k = n ∨ k = 40) → (ls.take k).map (fun l => l.take 26) = cutL ls := fun k h1 h2 h3 => by
    unfold cutL
    rcases h3 with h | h
    · rw [List.take_of_length_le (by omega), List.take_of_length_le (by omega)]
    · rw [h]
  have hlen : ∀ k, ((ls.take k).map fun l => l.take 26).length ≤ k := fun k => by simp; omega
  have HM := Lib.hid hmore
  have HA := Lib.hid hall
  have HL := Lib.hid hlen
  clear hl hmore hall hlen
  go_enter Try.func34, Try.ntmps34
  go_wp2_with fail
  go_loopw [3, 4] (fun ov iv wr => ∃ (k : Nat) (A1 : Option Addr) (n1 c1 : Nat), k ≤ n ∧ k ≤ 40 ∧ iv = .int .i64 (k : Int) ∧ ov = .slice A1 n1 c1 ∧ Hid (OwnT wr 0 w.heap.size (.slice A1 n1 c1) ((ls.take k).map fun l => l.take 26) ∧ Below w.heap.size w wr)) (fun _ iv _ => n - (intOf iv).toNat)
  case atStart => exact ⟨0, _, _, _, Nat.zero_le _, Nat.zero_le _, rfl, rfl, Lib.hid ⟨⟨[], Mine.empty w _ _ (Nat.le_refl _), by simp, fun k u l h => by simp at h⟩, (Below.refl _ _).alloc (Nat.le_refl _) _⟩⟩
  case round =>
    obtain ⟨k, A1, n1, c1, hk, hk40, rfl, rfl, HI⟩ := hrel
    by_cases hlt : k < n
    · by_cases h40 : k < 40
      · have hrw := hr.below (HI.out.2.mono hB)
        obtain ⟨b, o, rfl, hb⟩ := hr.addr (by omega)
        obtain ⟨A', m, c', hc, hp, hm, hmc, hmx⟩ := hrw.cell hlt
        have hfew := few_any (.slice A' m c') (ls.getD k []) 26 wr B hp (Nat.le_trans hB HI.out.2.size) (by omega)
        have HF := Lib.hid hfew
        clear hrw hp hm hfew
        go_wp2_with (first
          | (go_at_call 9; refine HF.out.mono ?_; rintro e w2 ⟨v2, rfl, hown2, hb2⟩; obtain ⟨A2, c2, rfl⟩ := hown2.form; have Ht2 := Lib.hid (hown2.txt (B0 := 0) HI.out.2.size); have Hb2 := Lib.hid hb2; have Ho2 := Lib.hid (HI.out.1.keep (Fr.below hb2) (RowB.none _ _) (Nat.zero_le _) (fun _ _ e => by cases e)); clear hown2 hb2)
          | (at_builtin; refine wpList_append_T rfl (.tmp 16) (.tmp 22) rfl rfl (.slice A1 n1 c1) _ rfl (Ho2.out.keep (Fr.alloc _ _) (RowB.none _ _) (Nat.zero_le _) (fun _ _ e => by cases e)) _ _ rfl (RdT.lit1 Ht2.out (Nat.zero_le _) _) (by have := HL.out k; simp at this ⊢; omega) (by have := HI.out.2.size; have := Hb2.out.size; simp; omega) (Nat.zero_le _) ?_; intro A3 n3 c3 w3 ho3 hb3 _; have Ho3 := Lib.hid ho3; have Hb3 := Lib.hid (((up HI.out.2 Hb2.out).alloc (by have := HI.out.2.size; have := Hb2.out.size; omega) (.cells #[.slice A2 _ c2] 22)).trans hb3); clear ho3 hb3))
        go_roundw
        case rel =>
          refine ⟨k + 1, _, _, _, by omega, by omega, by go_num, rfl, Lib.hid ⟨?_, Hb3.out⟩⟩
          rw [← HM.out k hlt]
          exact Ho3.out
        case measure => simp [intOf]; omega
      · have h4 : 40 ≤ k := by omega
        have Hk := Lib.hid (show k = 40 by omega)
        clear h40
        go_wp2_with fail
        go_ret
        refine ⟨_, _, _, rfl, ?_, HI.out.2⟩
        rw [← HA.out k hk (by have := Hk.out; omega) (.inr Hk.out)]
        exact HI.out.1
    · have h5 : n ≤ k := by omega
      have Hk := Lib.hid (show k = n by omega)
      clear hlt
      go_wp2_with fail
      go_ret
      refine ⟨_, _, _, rfl, ?_, HI.out.2⟩
      rw [← HA.out k hk hk40 (.inl Hk.out)]
      exact HI.out.1
end Go.Proofs.Ytceefoopehoalaa
