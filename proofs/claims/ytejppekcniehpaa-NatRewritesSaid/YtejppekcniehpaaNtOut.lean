/-
  Packets that are sent elsewhere, in plain words: bytes laid over others, and which packet they are then.
  Sums of packets that are sent elsewhere: right again, changed or summed anew.
  What a packet becomes that is sent elsewhere: its bytes, all sums anew; and that they are as they should be.
-/
import Derived.Test.YtejppekcniehpaaPkC
namespace Go.Proofs.Ytejppekcniehpaa
open Go.RowKit
/-- Bytes laid over others. -/
def layB (b : List UInt8) (k : Nat) (x : List UInt8) : List UInt8 := b.take k ++ (x ++ b.drop (k + x.length))
theorem layB_length {b : List UInt8} {k : Nat} {x : List UInt8} (h : k + x.length ≤ b.length) : (layB b k x).length = b.length := by
  unfold layB
  simp
  omega
theorem dropD (l : List UInt8) (n j : Nat) : (l.drop n).getD j 0 = l.getD (n + j) 0 := by simp [List.getD_eq_getElem?_getD, List.getElem?_drop]
theorem takeD (l : List UInt8) (n j : Nat) (h : j < n) : (l.take n).getD j 0 = l.getD j 0 := by
  simp only [List.getD_eq_getElem?_getD, List.getElem?_take]
  rw [if_pos h]
theorem extD {l m : List UInt8} (hl : l.length = m.length) (h : ∀ j, j < l.length → l.getD j 0 = m.getD j 0) : l = m := by
  apply List.ext_getElem hl
  intro j h1 h2
  have := h j h1
  rwa [List.getD_eq_getElem?_getD, List.getD_eq_getElem?_getD, List.getElem?_eq_getElem h1, List.getElem?_eq_getElem h2] at this
theorem layB_get {b : List UInt8} {k : Nat} {x : List UInt8} (h : k + x.length ≤ b.length) (j : Nat) : (layB b k x).getD j 0 = if k ≤ j ∧ j < k + x.length then x.getD (j - k) 0 else b.getD j 0 := by
  unfold layB
  simp only [List.getD_eq_getElem?_getD]
  by_cases h1 : j < k
  · rw [if_neg (by omega), List.getElem?_append_left (by simp; omega), List.getElem?_take, if_pos h1]
  · rw [List.getElem?_append_right (by simp; omega), show (List.take k b).length = k by simp; omega]
    by_cases h2 : j < k + x.length
    · rw [if_pos ⟨by omega, h2⟩, List.getElem?_append_left (by omega)]
    · rw [if_neg (by omega), List.getElem?_append_right (by omega), List.getElem?_drop, show k + x.length + (j - k - x.length) = j by omega]
/-- What a packet becomes. -/
def ntHd (h : Hd) (which : Nat) (to : Ad) : Hd := if which = 1 then { h with dst := to } else { h with src := to }
def ntSg (s : Sg) (which port : Nat) : Sg := if which = 1 then { s with dst := port } else { s with src := port }
def ntFl (f : Fl) (which : Nat) (to : Ad) (port : Nat) : Fl := if which = 1 then { f with dst := to, dport := port } else { f with src := to, sport := port }
def ntPk (p : Pk) (which : Nat) (to : Ad) (port : Nat) : Pk := ⟨ntHd p.head which to, ntSg p.sg which port, ntFl p.flow which to port⟩
def ntAt (six : Bool) (which : Nat) : Nat := if six then 8 + 16 * which else 12 + 4 * which
/-- What is so of a packet that went elsewhere: only these bytes are other ones, and the sums are right. -/
structure NtIs (b c : List UInt8) (p : Pk) (pos which : Nat) (to : Ad) (port : Nat) : Prop where
  at_ : p.head.pos = (pos : Int)
  len : c.length = b.length
  addr : (c.drop (ntAt p.head.six which)).take to.own.length = to.own
  port : num2 c (pos + 2 * which) = port
  rest : ∀ j, ¬ (ntAt p.head.six which ≤ j ∧ j < ntAt p.head.six which + to.own.length) → ¬ (pos + 2 * which ≤ j ∧ j < pos + 2 * which + 2) → (p.head.six = false → j ≠ 10 ∧ j ≠ 11) → (p.sg.zero = false → j ≠ pos + p.sg.sumAt.toNat ∧ j ≠ pos + p.sg.sumAt.toNat + 1) → c.getD j 0 = b.getD j 0
  sum1 : p.head.six = false → sumOf (c.take pos) = 0
  sum2 : p.sg.zero = false → sgOk (ntHd p.head which to) (c.drop pos) = true ∧ (p.head.proto = 17 → num2 c (pos + 6) ≠ 0)
theorem num2_drop (l : List UInt8) (n k : Nat) : num2 (l.drop n) k = num2 l (n + k) := by
  unfold num2
  rw [dropD, dropD, Nat.add_assoc]
/-- The segment of one, whatever its head is. -/
theorem nt_seg {b c : List UInt8} {h h' : Hd} {pos which port : Nat} (hw : which = 0 ∨ which = 1) (h1 : port ≠ 0) (e1 : h'.six = h.six) (e2 : h'.proto = h.proto) (hE : sgErr h (b.drop pos) = 0) (hlen : c.length = b.length)
    (hp : num2 c (pos + 2 * which) = port)
    (hr : ∀ j, ¬ (2 * which ≤ j ∧ j < 2 * which + 2) → ((sgRead h (b.drop pos)).zero = false → j ≠ (sgRead h (b.drop pos)).sumAt.toNat ∧ j ≠ (sgRead h (b.drop pos)).sumAt.toNat + 1) → c.getD (pos + j) 0 = b.getD (pos + j) 0)
    (hs : (sgRead h (b.drop pos)).zero = false → sgOk h' (c.drop pos) = true ∧ (h.proto = 17 → num2 c (pos + 6) ≠ 0)) :
    sgErr h' (c.drop pos) = 0 ∧ sgRead h' (c.drop pos) = ntSg (sgRead h (b.drop pos)) which port := by
  have hl : (c.drop pos).length = (b.drop pos).length := by simp [hlen]
  have hR : sgRead h (b.drop pos) = sgHd h (b.drop pos) := by unfold sgRead; rw [if_pos hE]
  rw [hR] at hr hs ⊢
  have key : sgErr h' (c.drop pos) = 0 → sgHd h' (c.drop pos) = ntSg (sgHd h (b.drop pos)) which port → sgErr h' (c.drop pos) = 0 ∧ sgRead h' (c.drop pos) = ntSg (sgHd h (b.drop pos)) which port := fun a1 a2 => ⟨a1, by unfold sgRead; rw [if_pos a1, a2]⟩
  have hports : num2 b (pos + 0) ≠ 0 ∧ num2 b (pos + 2) ≠ 0 := by
    unfold sgErr sgTcp sgUdp at hE
    have hq : sgPorts (b.drop pos) = 0 → num2 b (pos + 0) ≠ 0 ∧ num2 b (pos + 2) ≠ 0 := fun h => by
      unfold sgPorts at h
      rw [num2_drop, num2_drop] at h
      split at h
      · omega
      · rename_i h2; omega
    by_cases h6 : h.proto = 6
    · rw [if_pos h6] at hE
      repeat' split at hE
      all_goals first | omega | exact hq hE
    · rw [if_neg h6] at hE
      by_cases h17 : h.proto = 17
      · rw [if_pos h17] at hE
        repeat' split at hE
        all_goals first | omega | exact hq hE
      · rw [if_neg h17] at hE; omega
  have np : ∀ q, ((sgHd h (b.drop pos)).zero = false → q ≠ (sgHd h (b.drop pos)).sumAt.toNat ∧ q ≠ (sgHd h (b.drop pos)).sumAt.toNat + 1 ∧ q + 1 ≠ (sgHd h (b.drop pos)).sumAt.toNat) → ¬ (2 * which ≤ q ∧ q < 2 * which + 2) → ¬ (2 * which ≤ q + 1 ∧ q + 1 < 2 * which + 2) → num2 c (pos + q) = num2 b (pos + q) := fun q a1 a2 a3 => by
    unfold num2
    rw [hr q a2 (fun z => ⟨(a1 z).1, (a1 z).2.1⟩), Nat.add_assoc, hr (q + 1) a3 (fun z => ⟨(a1 z).2.2, fun e => (a1 z).1 (by omega)⟩)]
  by_cases h6 : h.proto = 6
  · have hH : sgHd h (b.drop pos) = ⟨num2 b pos, num2 b (pos + 2), b.getD (pos + 13) 0, 16, false, (sgN (b.drop pos) : Nat)⟩ := by
      unfold sgHd
      rw [if_pos h6, num2_drop, num2_drop, dropD]
      rfl
    rw [hH] at hr hs np
    have hN : sgN (c.drop pos) = sgN (b.drop pos) := by
      unfold sgN
      rw [dropD, dropD, hr 12 (by omega) (fun _ => ⟨by show 12 ≠ 16; omega, by show 12 ≠ 17; omega⟩)]
    have ho := (hs rfl).1
    have hP : sgPorts (c.drop pos) = 0 := by
      unfold sgPorts
      rw [num2_drop, num2_drop]
      rcases hw with e | e
      · subst e
        rw [if_neg]
        rw [show pos + 0 = pos + 2 * 0 by omega, hp, np 2 (fun _ => ⟨by show 2 ≠ 16; omega, by show 2 ≠ 17; omega, by show 3 ≠ 16; omega⟩) (by omega) (by omega)]
        omega
      · subst e
        rw [if_neg]
        rw [show pos + 2 = pos + 2 * 1 by omega, hp, np 0 (fun _ => ⟨by show 0 ≠ 16; omega, by show 0 ≠ 17; omega, by show 1 ≠ 16; omega⟩) (by omega) (by omega)]
        omega
    refine key ?_ ?_
    · unfold sgErr sgTcp at hE ⊢
      rw [if_pos h6] at hE
      rw [e2, if_pos h6, hl, hN, ho, if_pos rfl, hP]
      repeat' split at hE
      all_goals first | omega | skip
      all_goals (repeat' rw [if_neg (by omega)])
    · rw [hH]
      unfold sgHd ntSg
      rw [e2, if_pos h6, num2_drop, num2_drop, dropD, hN, hr 13 (by omega) (fun _ => ⟨by show 13 ≠ 16; omega, by show 13 ≠ 17; omega⟩)]
      rcases hw with e | e
      · subst e
        rw [if_neg (by omega), show pos + 0 = pos + 2 * 0 by omega, hp, np 2 (fun _ => ⟨by show 2 ≠ 16; omega, by show 2 ≠ 17; omega, by show 3 ≠ 16; omega⟩) (by omega) (by omega)]
      · subst e
        rw [if_pos rfl, show pos + 2 = pos + 2 * 1 by omega, hp, np 0 (fun _ => ⟨by show 0 ≠ 16; omega, by show 0 ≠ 17; omega, by show 1 ≠ 16; omega⟩) (by omega) (by omega)]
        rfl
  · have h17 : h.proto = 17 := by
      unfold sgErr at hE
      rw [if_neg h6] at hE
      by_cases h17 : h.proto = 17
      · exact h17
      · rw [if_neg h17] at hE; omega
    have hH : sgHd h (b.drop pos) = ⟨num2 b pos, num2 b (pos + 2), 0, 6, decide (num2 b (pos + 6) = 0), 8⟩ := by
      unfold sgHd
      rw [if_neg h6, num2_drop, num2_drop, num2_drop]
      rfl
    rw [hH] at hr hs np
    have h4 : num2 c (pos + 4) = num2 b (pos + 4) := np 4 (fun _ => ⟨by show 4 ≠ 6; omega, by show 4 ≠ 7; omega, by show 5 ≠ 6; omega⟩) (by omega) (by omega)
    have hP : sgPorts (c.drop pos) = 0 := by
      unfold sgPorts
      rw [num2_drop, num2_drop]
      rcases hw with e | e
      · subst e
        rw [if_neg]
        rw [show pos + 0 = pos + 2 * 0 by omega, hp, np 2 (fun _ => ⟨by show 2 ≠ 6; omega, by show 2 ≠ 7; omega, by show 3 ≠ 6; omega⟩) (by omega) (by omega)]
        omega
      · subst e
        rw [if_neg]
        rw [show pos + 2 = pos + 2 * 1 by omega, hp, np 0 (fun _ => ⟨by show 0 ≠ 6; omega, by show 0 ≠ 7; omega, by show 1 ≠ 6; omega⟩) (by omega) (by omega)]
        omega
    have hz : num2 c (pos + 6) = 0 ↔ num2 b (pos + 6) = 0 := by
      by_cases z : num2 b (pos + 6) = 0
      · rw [np 6 (fun k => absurd k (by show ¬ decide (num2 b (pos + 6) = 0) = false; rw [decide_eq_true z]; decide)) (by omega) (by omega)]
      · have := (hs (decide_eq_false z)).2 h17
        exact ⟨fun e => absurd e this, fun e => absurd e z⟩
    refine key ?_ ?_
    · unfold sgErr sgUdp at hE ⊢
      rw [if_neg h6, if_pos h17] at hE
      rw [e2, if_neg h6, if_pos h17, hl, num2_drop, num2_drop, h4, hP, e1]
      rw [num2_drop, num2_drop] at hE
      by_cases z : num2 b (pos + 6) = 0
      · rw [if_pos z] at hE
        rw [if_pos (hz.2 z)]
        repeat' split at hE
        all_goals first | omega | skip
        all_goals (repeat' (first | rw [if_neg (by assumption)] | rw [if_pos (by assumption)]))
      · rw [if_neg z] at hE
        rw [if_neg (fun e => z (hz.1 e)), (hs (decide_eq_false z)).1, if_pos rfl]
        repeat' split at hE
        all_goals first | omega | skip
        all_goals (repeat' rw [if_neg (by omega)])
    · rw [hH]
      unfold sgHd ntSg
      rw [e2, if_neg h6, num2_drop, num2_drop, num2_drop, decide_eq_decide.2 hz]
      rcases hw with e | e
      · subst e
        rw [if_neg (by omega), show pos + 0 = pos + 2 * 0 by omega, hp, np 2 (fun _ => ⟨by show 2 ≠ 6; omega, by show 2 ≠ 7; omega, by show 3 ≠ 6; omega⟩) (by omega) (by omega)]
      · subst e
        rw [if_pos rfl, show pos + 2 = pos + 2 * 1 by omega, hp, np 0 (fun _ => ⟨by show 0 ≠ 6; omega, by show 0 ≠ 7; omega, by show 1 ≠ 6; omega⟩) (by omega) (by omega)]
        rfl
/-- A head of IPv4 with another address. -/
theorem nt_four {b c : List UInt8} {which : Nat} {to : Ad} (hw : which = 0 ∨ which = 1) (hE : ifErr b = 0) (tw : to.Wide) (tg : to.good = true) (t6 : to.six = false) (hlen : c.length = b.length)
    (ha : (c.drop (12 + 4 * which)).take 4 = to.own) (hr : ∀ j, j < ifN b → ¬ (12 + 4 * which ≤ j ∧ j < 16 + 4 * which) → j ≠ 10 → j ≠ 11 → c.getD j 0 = b.getD j 0) (hs : sumOf (c.take (ifN b)) = 0) :
    ifErr c = 0 ∧ ifRead c = ntHd (ifRead b) which to := by
  obtain ⟨e1, e2, e3⟩ := ifErr_parts hE
  obtain ⟨g1, g2, _, g4, g5, _⟩ := ifE1_no e1
  have r0 := hr 0 (by omega) (by omega) (by omega) (by omega)
  have r2 := hr 2 (by omega) (by omega) (by omega) (by omega)
  have r3 := hr 3 (by omega) (by omega) (by omega) (by omega)
  have r6 := hr 6 (by omega) (by omega) (by omega) (by omega)
  have r7 := hr 7 (by omega) (by omega) (by omega) (by omega)
  have r8 := hr 8 (by omega) (by omega) (by omega) (by omega)
  have r9 := hr 9 (by omega) (by omega) (by omega) (by omega)
  have hN : ifN c = ifN b := by unfold ifN; rw [r0]
  have f1 : ifE1 c = 0 := by
    rw [← e1]
    unfold ifE1
    rw [hlen, hN, r0]
  have f2 : ifE2 c (ifN c) = 0 := by
    rw [← e2, hN]
    unfold ifE2 num2
    rw [hlen, r2, r3]
  have f3 : ifE3 (c.take (ifN c)) = 0 := by
    rw [hN]
    unfold ifE3 at e3 ⊢
    rw [if_neg (by omega), takeD _ _ _ (by omega), takeD _ _ _ (by omega), r8, r6]
    by_cases z : sumOf (b.take (ifN b)) ≠ 0
    · rw [if_pos z] at e3; omega
    · rw [if_neg z, takeD _ _ _ (by omega), takeD _ _ _ (by omega)] at e3
      exact e3
  have hE' : ifErr c = 0 := by rw [ifErr_three f1 f2, f3]
  refine ⟨hE', ?_⟩
  unfold ifRead
  rw [if_pos hE', if_pos hE, hN]
  obtain ⟨x, hx, hax, hox⟩ := is4_form tw (by unfold is4; rw [t6, tg]; rfl)
  have hto : ad4 to.own = to := by rw [hox, ← hax]
  have cut : ∀ k, k + 4 ≤ ifN b → (∀ j, k ≤ j → j < k + 4 → c.getD j 0 = b.getD j 0) → ((c.take (ifN b)).drop k).take 4 = ((b.take (ifN b)).drop k).take 4 := fun k hk hj => by
    apply extD
    · simp [hlen]
    · intro j h1
      have h4 : j < 4 := by simp at h1; omega
      rw [takeD _ _ _ h4, takeD _ _ _ h4, dropD, dropD, takeD _ _ _ (by omega), takeD _ _ _ (by omega)]
      exact hj _ (by omega) (by omega)
  have mine : ((c.take (ifN b)).drop (12 + 4 * which)).take 4 = to.own := by
    rw [← ha]
    apply extD
    · simp [hlen]
      rcases hw with e | e <;> subst e <;> omega
    · intro j h1
      have h4 : j < 4 := by simp at h1; omega
      rw [takeD _ _ _ h4, takeD _ _ _ h4, dropD, dropD, takeD _ _ _ (by rcases hw with e | e <;> subst e <;> omega)]
  have lc : (c.take (ifN b)).length = (b.take (ifN b)).length := by simp [hlen]
  have n6 : num2 (c.take (ifN b)) 6 = num2 (b.take (ifN b)) 6 := by
    unfold num2
    rw [takeD _ _ _ (by omega), takeD _ _ _ (by omega), takeD _ _ _ (by omega), takeD _ _ _ (by omega), r6, r7]
  unfold ifHd ntHd
  rw [takeD _ _ _ (by omega), takeD _ _ _ (by omega), takeD _ _ _ (by omega), takeD _ _ _ (by omega), r8, r9, lc, n6]
  rcases hw with e | e
  · subst e
    rw [if_neg (by omega), cut 16 (by omega) (fun j a1 a2 => hr j (by omega) (by omega) (by omega) (by omega)), show (12 : Nat) = 12 + 4 * 0 from rfl, mine, hto]
  · subst e
    rw [if_pos rfl, cut 12 (by omega) (fun j a1 a2 => hr j (by omega) (by omega) (by omega) (by omega)), show (16 : Nat) = 12 + 4 * 1 from rfl, mine, hto]
theorem ntHd_proto (h : Hd) (which : Nat) (to : Ad) : (ntHd h which to).proto = h.proto ∧ (ntHd h which to).pos = h.pos ∧ (ntHd h which to).six = h.six ∧ (ntHd h which to).part = h.part := by unfold ntHd; split <;> exact ⟨rfl, rfl, rfl, rfl⟩
theorem sxNext_nt (h : Hd) (which : Nat) (to : Ad) (r : List UInt8) : sxNext (ntHd h which to) r = ntHd (sxNext h r) which to := by unfold sxNext ntHd; split <;> rfl
/-- Addresses are nothing to the heads between. -/
theorem sxWalk_with : ∀ (k : Nat) (h : Hd) (which : Nat) (to : Ad) (r : List UInt8), sxWalk k (ntHd h which to) r = ((sxWalk k h r).1, ntHd (sxWalk k h r).2 which to)
  | 0, h, which, to, r => by
    unfold sxWalk
    rw [(ntHd_proto h which to).1]
    split <;> rfl
  | k + 1, h, which, to, r => by
    unfold sxWalk
    rw [(ntHd_proto h which to).1, sxNext_nt, sxWalk_with k]
    split
    · split
      · rfl
      · split <;> rfl
    · rfl
/-- What is behind a packet's heads is nothing to them. -/
theorem sxWalk_same : ∀ (k : Nat) (h : Hd) (r r' : List UInt8) (N n : Nat), r'.length = r.length → h.pos = (N : Int) → (sxWalk k h r).1 = 0 → (sxWalk k h r).2.pos = ((N + n : Nat) : Int) → (∀ j, j < n → r'.getD j 0 = r.getD j 0) → sxWalk k h r' = sxWalk k h r
  | 0, h, r, r', N, n, hl, hN, he, hp, hr => by unfold sxWalk; rfl
  | k + 1, h, r, r', N, n, hl, hN, he, hp, hr => by
    unfold sxWalk at he hp ⊢
    by_cases hs : stands h.proto = true
    · rw [if_pos hs] at he hp
      rw [if_pos hs, if_pos hs]
      by_cases h0 : h.proto = 0 ∧ k < 7
      · rw [if_pos h0, if_pos h0]
      · rw [if_neg h0] at he hp
        rw [if_neg h0, if_neg h0]
        by_cases h1 : sxPassE h.proto r ≠ 0
        · rw [if_pos h1] at he; simp at he
        · rw [if_neg h1] at he hp
          have hz : ¬ r.length < 8 ∧ ¬ r.length < sxSize h.proto r := by
            unfold sxPassE at h1
            split at h1
            · omega
            · rename_i h2; exact ⟨fun e => h2 (.inl e), fun e => h2 (.inr e)⟩
          have hpn : (sxNext h r).pos = ((N + sxSize h.proto r : Nat) : Int) := by show h.pos + _ = _; rw [hN]; rfl
          obtain ⟨m, q1, q2, q3⟩ := sxWalk_pos k (sxNext h r) (r.drop (sxSize h.proto r)) (N + sxSize h.proto r) hpn he
          have h8 : 8 ≤ sxSize h.proto r := by unfold sxSize; split <;> omega
          have hmn : m = N + n := by rw [hp] at q1; omega
          have a0 := hr 0 (by omega)
          have a1 := hr 1 (by omega)
          have a2 := hr 2 (by omega)
          have a3 := hr 3 (by omega)
          have hsz : sxSize h.proto r' = sxSize h.proto r := by unfold sxSize; rw [a1]
          have hpe : sxPassE h.proto r' = sxPassE h.proto r := by unfold sxPassE; rw [hl, hsz]
          have hnx : sxNext h r' = sxNext h r := by
            unfold sxNext sxBits num2
            rw [hsz, a0, a2, a3]
          rw [hpe, if_neg h1, if_neg h1, hsz, hnx]
          refine sxWalk_same k (sxNext h r) _ _ (N + sxSize h.proto r) (n - sxSize h.proto r) (by simp [hl]) hpn he ?_ ?_
          · rw [hp]; congr 1; omega
          · intro j hj
            rw [dropD, dropD]
            exact hr _ (by omega)
    · rw [if_neg hs, if_neg hs]
/-- A head of IPv6 with another address. -/
theorem nt_six {b c : List UInt8} {which pos : Nat} {to : Ad} (hw : which = 0 ∨ which = 1) (hE : sxErr b = 0) (tw : to.Wide) (t6 : to.six = true) (hlen : c.length = b.length) (hp : (sxRead b).pos = (pos : Int))
    (ha : (c.drop (8 + 16 * which)).take 16 = to.own) (hr : ∀ j, j < pos → ¬ (8 + 16 * which ≤ j ∧ j < 24 + 16 * which) → c.getD j 0 = b.getD j 0) :
    sxErr c = 0 ∧ sxRead c = ntHd (sxRead b) which to := by
  have e1 := sxErr_parts hE
  obtain ⟨g1, g2, g3, g4, g5⟩ := sxE1_no e1
  obtain ⟨m, m1, m2, m3, _⟩ := sxRead_pos hE
  have hpos : pos = m := by rw [hp] at m1; omega
  have r0 := hr 0 (by omega) (by omega)
  have r4 := hr 4 (by omega) (by omega)
  have r5 := hr 5 (by omega) (by omega)
  have r6 := hr 6 (by omega) (by omega)
  have r7 := hr 7 (by omega) (by omega)
  have f1 : sxE1 c = 0 := by
    rw [← e1]
    unfold sxE1 num2
    rw [hlen, r0, r4, r5, r7]
  have hto : ad6 to.own = to := by rw [own_six t6]; exact ad6_own t6
  have cut : ∀ k, k + 16 ≤ 40 → (∀ j, k ≤ j → j < k + 16 → c.getD j 0 = b.getD j 0) → (c.drop k).take 16 = (b.drop k).take 16 := fun k hk hj => by
    apply extD
    · simp [hlen]
    · intro j h1
      have h4 : j < 16 := by simp at h1; omega
      rw [takeD _ _ _ h4, takeD _ _ _ h4, dropD, dropD]
      exact hj _ (by omega) (by omega)
  have hF : sxFirst c = ntHd (sxFirst b) which to := by
    unfold sxFirst ntHd
    rw [r6, r7]
    rcases hw with e | e
    · subst e
      rw [if_neg (by omega), cut 24 (by omega) (fun j a1 a2 => hr j (by omega) (by omega)), show (8 : Nat) = 8 + 16 * 0 from rfl, ha, hto]
    · subst e
      rw [if_pos rfl, cut 8 (by omega) (fun j a1 a2 => hr j (by omega) (by omega)), show (24 : Nat) = 8 + 16 * 1 from rfl, ha, hto]
  have hWe : (sxWalk 8 (sxFirst b) (b.drop 40)).1 = 0 := by rw [← sxErr_two e1]; exact hE
  have hRb : sxRead b = (sxWalk 8 (sxFirst b) (b.drop 40)).2 := by unfold sxRead; rw [if_pos hE]
  have hS : sxWalk 8 (sxFirst b) (c.drop 40) = sxWalk 8 (sxFirst b) (b.drop 40) := by
    refine sxWalk_same 8 (sxFirst b) (b.drop 40) (c.drop 40) 40 (pos - 40) (by simp [hlen]) rfl hWe ?_ ?_
    · rw [← hRb, hp]; congr 1; omega
    · intro j hj
      rw [dropD, dropD]
      exact hr _ (by omega) (by rcases hw with e | e <;> subst e <;> omega)
  have hW : sxWalk 8 (sxFirst c) (c.drop 40) = (0, ntHd (sxRead b) which to) := by
    rw [hF, sxWalk_with, hS, hWe, hRb]
  have hE' : sxErr c = 0 := by rw [sxErr_two f1, hW]
  refine ⟨hE', ?_⟩
  unfold sxRead
  rw [if_pos hE', hW]
  unfold sxRead
  rfl
/-- What went elsewhere is read as what it was, but for that place. -/
theorem ntRead {b c : List UInt8} {pos which port : Nat} {to : Ad} (hw : which = 0 ∨ which = 1) (hE : pkErr b = 0) (h1 : port ≠ 0) (tw : to.Wide) (tg : to.good = true) (t6 : to.six = (pkRead b).head.six) (h : NtIs b c (pkRead b) pos which to port) :
    pkErr c = 0 ∧ pkRead c = ntPk (pkRead b) which to port := by
  obtain ⟨k1, k2, k3, k4⟩ := pkErr_parts hE
  have hb0 : b.length ≠ 0 := fun z => by unfold pkErr at hE; rw [if_pos z] at hE; omega
  have hP : pkRead b = ⟨pkH b, pkSg b, ⟨(pkH b).src, (pkH b).dst, (pkSg b).src, (pkSg b).dst, (pkH b).proto⟩⟩ := by unfold pkRead; rw [if_pos hE]
  rw [hP] at h t6 ⊢
  have hpos : (pkH b).pos = (pos : Int) := h.at_
  have hpn : (pkH b).pos.toNat = pos := by rw [hpos]; rfl
  rw [hpn] at k4
  have hH : pkE c = 0 ∧ pkH c = ntHd (pkH b) which to ∧ pkHi c = pkHi b := by
    rcases k1 with k1 | k1
    · have eE : pkE b = ifErr b := by unfold pkE; rw [if_pos k1]
      have eH : pkH b = ifRead b := by unfold pkH; rw [if_pos k1]
      rw [eE] at k2
      have hHd : ifRead b = ifHd (b.take (ifN b)) := by unfold ifRead; rw [if_pos k2]
      have hsix : (pkH b).six = false := by rw [eH, hHd]; rfl
      obtain ⟨m, m1, m2, m3, _⟩ := ifRead_pos k2
      have hm : ifN b = pos := by
        have z : (ifRead b).pos = ((b.take (ifN b)).length : Int) := by rw [hHd]; rfl
        rw [eH] at hpos
        obtain ⟨_, _, _, _, g5, _⟩ := ifE1_no (ifErr_parts k2).1
        rw [List.length_take, Nat.min_eq_left g5] at z
        omega
      have hp20 : 20 ≤ pos := by rw [eH] at hpos; omega
      have h4 : to.own.length = 4 := by
        obtain ⟨x, hx, _, hox⟩ := is4_form tw (by unfold is4; rw [t6, hsix, tg]; rfl)
        rw [hox, hx]
      have hat : ntAt (pkH b).six which = 12 + 4 * which := by unfold ntAt; rw [hsix]; rfl
      have ha := h.addr
      have hrr := h.rest
      dsimp only at ha hrr
      rw [hat, h4] at ha hrr
      have r : ∀ j, j < pos → ¬ (12 + 4 * which ≤ j ∧ j < 16 + 4 * which) → j ≠ 10 → j ≠ 11 → c.getD j 0 = b.getD j 0 := fun j a1 a2 a3 a4 => hrr j (by omega) (by omega) (fun _ => ⟨a3, a4⟩) (fun _ => ⟨by omega, by omega⟩)
      obtain ⟨f1, f2⟩ := nt_four hw k2 tw tg (by rw [t6]; exact hsix) h.len ha (by rw [hm]; exact r) (by rw [hm]; exact h.sum1 hsix)
      have r0 := r 0 (by omega) (by omega) (by omega) (by omega)
      have hi : pkHi c = pkHi b := by unfold pkHi; rw [r0]
      refine ⟨?_, ?_, hi⟩
      · unfold pkE; rw [hi, if_pos k1, f1]
      · unfold pkH; rw [hi, if_pos k1, if_pos k1, f2]
    · have eE : pkE b = sxErr b := by unfold pkE; rw [if_neg (by omega)]
      have eH : pkH b = sxRead b := by unfold pkH; rw [if_neg (by omega)]
      rw [eE] at k2
      have hsix : (pkH b).six = true := by
        rw [eH]
        have : (sxRead b).six = true := by
          unfold sxRead
          rw [if_pos k2]
          have q : ∀ (k : Nat) (h : Hd) (r : List UInt8), h.six = true → (sxWalk k h r).2.six = true := by
            intro k
            induction k with
            | zero => intro h r hh; unfold sxWalk; split <;> exact hh
            | succ k ih =>
              intro h r hh
              unfold sxWalk
              split
              · split
                · exact hh
                · split
                  · exact hh
                  · exact ih _ _ hh
              · exact hh
          exact q _ _ _ rfl
        exact this
      obtain ⟨m, m1, m2, m3, _⟩ := sxRead_pos k2
      have hm : m = pos := by rw [eH] at hpos; omega
      have h16 : to.own.length = 16 := by rw [own_six (by rw [t6]; exact hsix)]; exact tw
      have hat : ntAt (pkH b).six which = 8 + 16 * which := by unfold ntAt; rw [hsix]; rfl
      have ha := h.addr
      have hrr := h.rest
      dsimp only at ha hrr
      rw [hat, h16] at ha hrr
      have r : ∀ j, j < pos → ¬ (8 + 16 * which ≤ j ∧ j < 24 + 16 * which) → c.getD j 0 = b.getD j 0 := fun j a1 a2 => hrr j (by omega) (by omega) (fun z => by rw [hsix] at z; cases z) (fun _ => ⟨by omega, by omega⟩)
      obtain ⟨f1, f2⟩ := nt_six hw k2 tw (by rw [t6]; exact hsix) h.len (by rw [← eH]; exact hpos) ha r
      have r0 := r 0 (by omega) (by omega)
      have hi : pkHi c = pkHi b := by unfold pkHi; rw [r0]
      refine ⟨?_, ?_, hi⟩
      · unfold pkE; rw [hi, if_neg (by omega), f1]
      · unfold pkH; rw [hi, if_neg (by omega), if_neg (by omega), f2]
  obtain ⟨q1, q2, q3⟩ := hH
  obtain ⟨n1, n2, n3, n4⟩ := ntHd_proto (pkH b) which to
  have hSg : pkSg b = sgRead (pkH b) (b.drop pos) := by unfold pkSg; rw [hpn]
  have hatlow : ∀ j, pos ≤ j → ¬ (ntAt (pkH b).six which ≤ j ∧ j < ntAt (pkH b).six which + to.own.length) := by
    intro j hj
    have hol : to.own.length ≤ 16 := by
      have := own_length tw
      rw [this]; split <;> omega
    rcases k1 with k1 | k1
    · have eH : pkH b = ifRead b := by unfold pkH; rw [if_pos k1]
      have eE : pkE b = ifErr b := by unfold pkE; rw [if_pos k1]
      rw [eE] at k2
      obtain ⟨m, m1, m2, m3, _⟩ := ifRead_pos k2
      have hsix : (pkH b).six = false := by rw [eH]; unfold ifRead; rw [if_pos k2]; rfl
      have hm : m = pos := by rw [eH] at hpos; omega
      have h4 : to.own.length = 4 := by
        have := own_length tw
        rw [this, t6]
        show (if (pkH b).six then 16 else 4) = 4
        rw [hsix]; rfl
      have hat : ntAt (pkH b).six which = 12 + 4 * which := by unfold ntAt; rw [hsix]; rfl
      rw [hat, h4]
      rcases hw with e | e <;> subst e <;> omega
    · have eH : pkH b = sxRead b := by unfold pkH; rw [if_neg (by omega)]
      have eE : pkE b = sxErr b := by unfold pkE; rw [if_neg (by omega)]
      rw [eE] at k2
      obtain ⟨m, m1, m2, m3, _⟩ := sxRead_pos k2
      have hm : m = pos := by rw [eH] at hpos; omega
      have hat : ntAt (pkH b).six which ≤ 12 + 16 * which := by unfold ntAt; split <;> omega
      rcases hw with e | e
      · subst e; omega
      · subst e
        by_cases z : (pkH b).six = true
        · have : ntAt (pkH b).six 1 = 24 := by unfold ntAt; rw [z]; rfl
          omega
        · have z' : (pkH b).six = false := by simpa using z
          have : ntAt (pkH b).six 1 = 16 := by unfold ntAt; rw [z']; rfl
          omega
  have hat20 : 20 ≤ pos := by
    rcases k1 with k1 | k1
    · have eH : pkH b = ifRead b := by unfold pkH; rw [if_pos k1]
      have eE : pkE b = ifErr b := by unfold pkE; rw [if_pos k1]
      rw [eE] at k2
      obtain ⟨m, m1, m2, m3, _⟩ := ifRead_pos k2
      rw [eH] at hpos; omega
    · have eH : pkH b = sxRead b := by unfold pkH; rw [if_neg (by omega)]
      have eE : pkE b = sxErr b := by unfold pkE; rw [if_neg (by omega)]
      rw [eE] at k2
      obtain ⟨m, m1, m2, m3, _⟩ := sxRead_pos k2
      rw [eH] at hpos; omega
  have hz := h.sum2
  have hre := h.rest
  dsimp only at hz hre
  rw [hSg] at hz hre
  obtain ⟨s1, s2⟩ := nt_seg (h := pkH b) (h' := pkH c) hw h1 (by rw [q2]; exact n3) (by rw [q2]; exact n1) k4 h.len h.port
    (fun j a1 a2 => hre (pos + j) (hatlow _ (by omega)) (by omega) (fun _ => ⟨by omega, by omega⟩) (fun z => ⟨fun e => (a2 z).1 (by omega), fun e => (a2 z).2 (by omega)⟩))
    (fun z => by rw [q2]; exact hz z)
  have hposc : (pkH c).pos.toNat = pos := by rw [q2, n2, hpn]
  have hE' : pkErr c = 0 := by
    unfold pkErr pkBehind
    rw [if_neg (by rw [h.len]; exact hb0), q3, if_neg (by omega), q1, if_neg (by omega), hposc, q2, n4, k3, if_neg (by decide), ← q2]
    exact s1
  refine ⟨hE', ?_⟩
  have hSc : pkSg c = ntSg (sgRead (pkH b) (b.drop pos)) which port := by unfold pkSg; rw [hposc]; exact s2
  unfold pkRead
  rw [if_pos hE', hSc, q2, ← hSg]
  unfold ntPk ntHd ntSg ntFl
  rcases hw with e | e
  · subst e; rfl
  · subst e; rfl
theorem tot_layB {l : List UInt8} {k : Nat} {x : List UInt8} (hk : k % 2 = 0) (hx : x.length % 2 = 0) (h : k + x.length ≤ l.length) : tot (layB l k x) + tot ((l.drop k).take x.length) = tot l + tot x := by
  have e : l = l.take k ++ ((l.drop k).take x.length ++ l.drop (k + x.length)) := by
    conv => lhs; rw [← List.take_append_drop k l, ← List.take_append_drop x.length (l.drop k), List.drop_drop]
  have lk : (l.take k).length = k := by rw [List.length_take]; omega
  have lm : ((l.drop k).take x.length).length = x.length := by rw [List.length_take, List.length_drop]; omega
  have e1 : tot l = tot (l.take k) + (tot ((l.drop k).take x.length) + tot (l.drop (k + x.length))) := by
    conv => lhs; rw [e]
    rw [tot_append _ _ (by omega), tot_append _ _ (by omega)]
  unfold layB
  rw [tot_append _ _ (by omega), tot_append _ _ hx]
  omega
theorem tot_pseudo {h : Hd} (hw : h.Wide) (n : Nat) (s : List UInt8) : tot (sgPseudo h n ++ s) = tot h.src.own + tot h.dst.own + tot (if h.six then be 4 n ++ [0, 0, 0, h.proto] else [0, h.proto] ++ be 2 n) + tot s := by
  have l1 := own_length hw.1
  have l2 := own_length hw.2
  have a1 : h.src.own.length % 2 = 0 := by rw [l1]; split <;> rfl
  have a2 : h.dst.own.length % 2 = 0 := by rw [l2]; split <;> rfl
  obtain ⟨a3, _⟩ := sgPseudo_length hw n
  rw [tot_append _ _ a3]
  unfold sgPseudo
  rw [tot_append _ _ a1, tot_append _ _ a2]
  omega
/-- What a changed sum is, but for 65535. -/
theorem chg_mod (s : Nat) (a b : List UInt8) (hs : s ≤ 65535) (ha : a.length % 2 = 0) : (chgOf s a b + tot b) % 65535 = (s + tot a) % 65535 := by
  have h1 := tot_even a ha
  have h2 := fo_le (65535 - s + (a.length / 2 * 65535 - tot a) + tot b)
  have h3 := fo_mod (65535 - s + (a.length / 2 * 65535 - tot a) + tot b)
  unfold chgOf
  generalize hq : a.length / 2 = q at *
  generalize hf : fo (65535 - s + (q * 65535 - tot a) + tot b) = f at *
  omega
/-- A segment of another place: what its numbers add to. -/
theorem nt_tot {h : Hd} (hw : h.Wide) {to : Ad} (tw : to.Wide) (t6 : to.six = h.six) {which : Nat} (hwh : which = 0 ∨ which = 1) (n : Nat) (s s' : List UInt8) :
    tot (sgPseudo (ntHd h which to) n ++ s') + tot (if which = 1 then h.dst.own else h.src.own) + tot s = tot (sgPseudo h n ++ s) + tot to.own + tot s' := by
  have hw' : (ntHd h which to).Wide := by unfold ntHd; split <;> first | exact ⟨hw.1, tw⟩ | exact ⟨tw, hw.2⟩
  rw [tot_pseudo hw', tot_pseudo hw, (ntHd_proto h which to).1, (ntHd_proto h which to).2.2.1]
  rcases hwh with e | e
  · subst e
    have e1 : (ntHd h 0 to).src = to := rfl
    have e2 : (ntHd h 0 to).dst = h.dst := rfl
    rw [e1, e2, show (if (0 : Nat) = 1 then h.dst.own else h.src.own) = h.src.own from rfl]
    omega
  · subst e
    have e1 : (ntHd h 1 to).src = h.src := rfl
    have e2 : (ntHd h 1 to).dst = to := rfl
    rw [e1, e2, show (if (1 : Nat) = 1 then h.dst.own else h.src.own) = h.dst.own from rfl]
    omega
/-- Where all numbers add to a multiple of 65535, and not to 0, the sum is 0. -/
theorem sum_zero {l : List UInt8} (h : tot l % 65535 = 0) (hz : tot l ≠ 0) : sumOf l = 0 := by
  unfold sumOf
  rw [fo_full _ h hz]
/-- Another address, another port; the head's sum anew; the segment's sum anew. -/
def ntB (l : List UInt8) (six : Bool) (which : Nat) (to : Ad) (pos port : Nat) : List UInt8 := layB (layB l (ntAt six which) to.own) (pos + 2 * which) (be 2 port)
def ntC (l : List UInt8) (six : Bool) (pos : Nat) : List UInt8 := if six then l else layB (layB l 10 (be 2 0)) 10 (be 2 (sumOf ((layB l 10 (be 2 0)).take pos)))
def ntS (h : Hd) (d : List UInt8) : Nat := if sumOf (sgPseudo h d.length ++ d) = 0 ∧ h.proto = 17 then 65535 else sumOf (sgPseudo h d.length ++ d)
def ntD (l : List UInt8) (h : Hd) (pos k : Nat) (zero : Bool) : List UInt8 := if zero then l else layB (layB l k (be 2 0)) k (be 2 (ntS h ((layB l k (be 2 0)).drop pos)))
def ntOut (l : List UInt8) (p : Pk) (pos k which : Nat) (to : Ad) (port : Nat) : List UInt8 := ntD (ntC (ntB l p.head.six which to pos port) p.head.six pos) (ntHd p.head which to) pos k p.sg.zero
theorem ntS_le (h : Hd) (d : List UInt8) : ntS h d ≤ 65535 := by
  unfold ntS
  have := sumOf_le (sgPseudo h d.length ++ d)
  split <;> omega
theorem layB_two {l : List UInt8} {k s : Nat} (h : k + 1 < l.length) : layB l k (be 2 s) = lay2 l k s := by
  rw [lay2_split l k s h, be2]
  unfold layB
  have : UInt8.ofNat (s % 256) = UInt8.ofNat s := by apply UInt8.toNat_inj.1; simp
  rw [this]
  simp
/-- Where things lie in a packet. -/
structure NtMay (b : List UInt8) (p : Pk) (pos k which : Nat) (to : Ad) : Prop where
  at_ : p.head.pos = (pos : Int)
  sum : p.sg.sumAt = ((k - pos : Nat) : Int) ∧ pos + 6 ≤ k ∧ k + 2 ≤ b.length ∧ (k - pos) % 2 = 0
  low : 20 ≤ pos ∧ (p.head.six = true → 40 ≤ pos)
  own : to.own.length = if p.head.six then 16 else 4
  few : b.length ≤ 2048
  which_ : which = 0 ∨ which = 1
  udp : p.head.proto = 17 → k = pos + 6
  wide : p.head.Wide
  to_ : to.Wide
theorem NtMay.addr {b : List UInt8} {p : Pk} {pos k which : Nat} {to : Ad} (h : NtMay b p pos k which to) : ntAt p.head.six which + to.own.length ≤ pos ∧ (p.head.six = false → 12 ≤ ntAt p.head.six which) := by
  have h1 := h.own
  have h2 := h.low
  have h3 := h.which_
  rw [h1]
  unfold ntAt
  cases hs : p.head.six with
  | true =>
    have := h2.2 hs
    simp
    rcases h3 with e | e <;> subst e <;> omega
  | false =>
    simp
    rcases h3 with e | e <;> subst e <;> omega
theorem ntB_length {l : List UInt8} {six : Bool} {which : Nat} {to : Ad} {pos port : Nat} (h1 : ntAt six which + to.own.length ≤ l.length) (h2 : pos + 2 * which + 2 ≤ l.length) : (ntB l six which to pos port).length = l.length := by
  unfold ntB
  rw [layB_length (by rw [layB_length h1, be_length]; exact h2), layB_length h1]
theorem ntC_length {l : List UInt8} {six : Bool} {pos : Nat} (h : 12 ≤ l.length) : (ntC l six pos).length = l.length := by
  unfold ntC
  split
  · rfl
  · rw [layB_length (by rw [layB_length (by rw [be_length]; omega), be_length]; omega), layB_length (by rw [be_length]; omega)]
theorem ntD_length {l : List UInt8} {h : Hd} {pos k : Nat} {zero : Bool} (hk : k + 2 ≤ l.length) : (ntD l h pos k zero).length = l.length := by
  unfold ntD
  split
  · rfl
  · rw [layB_length (by rw [layB_length (by rw [be_length]; omega), be_length]; omega), layB_length (by rw [be_length]; omega)]
theorem ntB_get {l : List UInt8} {six : Bool} {which : Nat} {to : Ad} {pos port : Nat} (h1 : ntAt six which + to.own.length ≤ pos) (h2 : pos + 2 * which + 2 ≤ l.length) (j : Nat) :
    (ntB l six which to pos port).getD j 0 = if pos + 2 * which ≤ j ∧ j < pos + 2 * which + 2 then (be 2 port).getD (j - (pos + 2 * which)) 0 else if ntAt six which ≤ j ∧ j < ntAt six which + to.own.length then to.own.getD (j - ntAt six which) 0 else l.getD j 0 := by
  unfold ntB
  rw [layB_get (by rw [layB_length (by omega), be_length]; omega), be_length, layB_get (by omega)]
theorem lay_twice {l : List UInt8} {k s t : Nat} (h : k + 1 < l.length) : layB (layB l k (be 2 s)) k (be 2 t) = layB l k (be 2 t) := by
  rw [layB_two (s := s) h, layB_two (by rw [lay2_length]; exact h), layB_two h, lay2_again]
theorem lay_get {l : List UInt8} {k s j : Nat} (h : k + 1 < l.length) (hj : j ≠ k ∧ j ≠ k + 1) : (layB l k (be 2 s)).getD j 0 = l.getD j 0 := by
  rw [layB_get (by rw [be_length]; omega), be_length, if_neg (by omega)]
theorem ntC_get {l : List UInt8} {six : Bool} {pos j : Nat} (h : 12 ≤ l.length) (hj : six = false → j ≠ 10 ∧ j ≠ 11) : (ntC l six pos).getD j 0 = l.getD j 0 := by
  unfold ntC
  cases six with
  | true => rfl
  | false =>
    have := hj rfl
    rw [if_neg (by decide), lay_twice (by omega), lay_get (by omega) ⟨this.1, this.2⟩]
theorem ntD_get {l : List UInt8} {h : Hd} {pos k j : Nat} {zero : Bool} (hk : k + 2 ≤ l.length) (hj : zero = false → j ≠ k ∧ j ≠ k + 1) : (ntD l h pos k zero).getD j 0 = l.getD j 0 := by
  unfold ntD
  cases zero with
  | true => rfl
  | false =>
    have := hj rfl
    rw [if_neg (by decide), lay_twice (by omega), lay_get (by omega) ⟨this.1, this.2⟩]
theorem ntD_take {l : List UInt8} {h : Hd} {pos k : Nat} {zero : Bool} (hp : pos ≤ k) (hk : k + 2 ≤ l.length) : (ntD l h pos k zero).take pos = l.take pos := by
  apply extD
  · rw [List.length_take, List.length_take, ntD_length hk]
  · intro j hj
    rw [List.length_take, ntD_length hk] at hj
    rw [takeD _ _ _ (by omega), takeD _ _ _ (by omega), ntD_get hk (fun _ => ⟨by omega, by omega⟩)]
theorem lay_drop {l : List UInt8} {k pos s : Nat} (hp : pos ≤ k) (h : k + 1 < l.length) : (layB l k (be 2 s)).drop pos = layB (l.drop pos) (k - pos) (be 2 s) := by
  apply extD
  · rw [List.length_drop, layB_length (by rw [be_length]; omega), layB_length (by rw [be_length, List.length_drop]; omega), List.length_drop]
  · intro j _
    rw [dropD, layB_get (by rw [be_length]; omega), layB_get (by rw [be_length, List.length_drop]; omega), dropD, be_length]
    by_cases hc : k ≤ pos + j ∧ pos + j < k + 2
    · rw [if_pos hc, if_pos (by omega), show pos + j - k = j - (k - pos) by omega]
    · rw [if_neg hc, if_neg (by omega)]
theorem lay_take {l : List UInt8} {k pos s : Nat} (hp : k + 2 ≤ pos) (h : k + 1 < l.length) : (layB l k (be 2 s)).take pos = layB (l.take pos) k (be 2 s) := by
  apply extD
  · rw [List.length_take, layB_length (by rw [be_length]; omega), layB_length (by rw [be_length, List.length_take]; omega), List.length_take]
  · intro j hj
    rw [List.length_take, layB_length (by rw [be_length]; omega)] at hj
    rw [takeD _ _ _ (by omega), layB_get (by rw [be_length]; omega), layB_get (by rw [be_length, List.length_take]; omega), takeD _ _ _ (by omega)]
theorem lay_behind {P l : List UInt8} {k s : Nat} (h : k + 1 < l.length) : P ++ layB l k (be 2 s) = lay2 (P ++ l) (P.length + k) s := by
  rw [layB_two h, lay2_split l k s h, lay2_split _ _ s (by simp; omega)]
  rw [List.take_length_add_append, Nat.add_assoc, List.drop_length_add_append]
  simp only [List.append_assoc]
/-- The sum that is told makes all of it right. -/
theorem ntS_good {h : Hd} (hw : h.Wide) {d : List UInt8} {k : Nat} (hk : k % 2 = 0) (hl : k + 1 < d.length) : sgOk h (layB d k (be 2 (ntS h (layB d k (be 2 0))))) = true := by
  have hd : (layB d k (be 2 0)).length = d.length := layB_length (by rw [be_length]; omega)
  have hd2 : ∀ s, (layB d k (be 2 s)).length = d.length := fun s => layB_length (by rw [be_length]; omega)
  obtain ⟨hp, _, _⟩ := sgPseudo_length hw d.length
  unfold sgOk
  rw [hd2, decide_eq_true_iff]
  unfold ntS
  rw [hd]
  obtain ⟨P, hP⟩ : ∃ P, P = sgPseudo h d.length := ⟨_, rfl⟩
  rw [← hP] at hp ⊢
  rw [lay_behind hl, lay_behind hl]
  have h1 := sum_own (P ++ d) (P.length + k) (by omega) (by simp; omega)
  split
  · rename_i hz
    have h2 := tot_lay2 (P ++ d) (P.length + k) 65535 (by omega) (by simp; omega) (by omega)
    have h3 := sumOf_good hz.1
    exact sum_zero (by omega) (by omega)
  · exact h1
theorem num2_lay {l : List UInt8} {k s : Nat} (h : k + 1 < l.length) (hs : s < 65536) : num2 (layB l k (be 2 s)) k = s := by
  unfold num2
  rw [layB_get (by rw [be_length]; omega), layB_get (by rw [be_length]; omega), be_length, if_pos (by omega), if_pos (by omega), Nat.sub_self, Nat.add_sub_cancel_left]
  exact num2_be s hs
/-- A packet's bytes elsewhere are as they should be. -/
theorem ntOut_is {b : List UInt8} {p : Pk} {pos k which : Nat} {to : Ad} {port : Nat} (h : NtMay b p pos k which to) (hp : port < 65536) : NtIs b (ntOut b p pos k which to port) p pos which to port := by
  obtain ⟨ha, ha2⟩ := h.addr
  obtain ⟨s1, s2, s3, s4⟩ := h.sum
  have hw := h.which_
  have hlow := h.low.1
  have hk : p.sg.sumAt.toNat = k - pos := by rw [s1]; rfl
  have lB : (ntB b p.head.six which to pos port).length = b.length := ntB_length (by omega) (by omega)
  have lC : (ntC (ntB b p.head.six which to pos port) p.head.six pos).length = b.length := by rw [ntC_length (by omega), lB]
  have lD : (ntOut b p pos k which to port).length = b.length := by unfold ntOut; rw [ntD_length (by omega), lC]
  have hget : ∀ j, (p.sg.zero = false → j ≠ k ∧ j ≠ k + 1) → (p.head.six = false → j ≠ 10 ∧ j ≠ 11) → (ntOut b p pos k which to port).getD j 0 = (ntB b p.head.six which to pos port).getD j 0 := fun j h1 h2 => by
    unfold ntOut
    rw [ntD_get (by omega) h1, ntC_get (by omega) h2]
  refine ⟨h.at_, lD, ?_, ?_, ?_, ?_, ?_⟩
  · apply extD
    · rw [List.length_take, List.length_drop, lD]; omega
    · intro j hj
      rw [List.length_take, List.length_drop, lD] at hj
      rw [takeD _ _ _ (by omega), dropD, hget _ (fun _ => ⟨by omega, by omega⟩) (fun z => by have := ha2 z; exact ⟨by omega, by omega⟩), ntB_get ha (by omega), if_neg (by omega), if_pos (by omega), Nat.add_sub_cancel_left]
  · unfold num2
    rw [hget _ (fun _ => ⟨by omega, by omega⟩) (fun _ => ⟨by omega, by omega⟩), hget _ (fun _ => ⟨by omega, by omega⟩) (fun _ => ⟨by omega, by omega⟩), ntB_get ha (by omega), ntB_get ha (by omega), if_pos (by omega), if_pos (by omega), Nat.sub_self, Nat.add_sub_cancel_left]
    exact num2_be port hp
  · intro j h1 h2 h3 h4
    rw [hget _ (fun z => by have := h4 z; rw [hk] at this; exact ⟨by omega, by omega⟩) h3, ntB_get ha (by omega), if_neg (by omega), if_neg (by omega)]
  · intro h6
    unfold ntOut
    rw [ntD_take (by omega) (by omega)]
    unfold ntC
    rw [h6, if_neg (by decide), lay_take (by omega) (by rw [layB_length (by rw [be_length, ← h6, lB]; omega), ← h6, lB]; omega), lay_take (by omega) (by rw [← h6, lB]; omega)]
    have hl : 10 + 1 < ((ntB b false which to pos port).take pos).length := by rw [List.length_take, ← h6, lB]; omega
    rw [lay_twice hl, layB_two hl, layB_two hl]
    exact sum_own _ 10 rfl hl
  · intro hz
    obtain ⟨d, hd⟩ : ∃ d, d = (ntC (ntB b p.head.six which to pos port) p.head.six pos).drop pos := ⟨_, rfl⟩
    have ld : d.length = b.length - pos := by rw [hd, List.length_drop, lC]
    have hw' : (ntHd p.head which to).Wide := by unfold ntHd; split <;> first | exact ⟨h.wide.1, h.to_⟩ | exact ⟨h.to_, h.wide.2⟩
    have e : (ntOut b p pos k which to port).drop pos = layB d (k - pos) (be 2 (ntS (ntHd p.head which to) (layB d (k - pos) (be 2 0)))) := by
      unfold ntOut ntD
      rw [hz, if_neg (by decide), lay_drop (by omega) (by rw [layB_length (by rw [be_length, lC]; omega), lC]; omega), lay_drop (by omega) (by rw [lC]; omega), ← hd, lay_twice (by omega)]
    rw [e]
    refine ⟨ntS_good hw' s4 (by omega), fun h17 => ?_⟩
    have hk6 := h.udp h17
    have : num2 (ntOut b p pos k which to port) (pos + 6) = ntS (ntHd p.head which to) (layB d (k - pos) (be 2 0)) := by
      rw [← num2_drop, e, show (6 : Nat) = k - pos by omega]
      exact num2_lay (by omega) (by have := ntS_le (ntHd p.head which to) (layB d (k - pos) (be 2 0)); omega)
    rw [this]
    unfold ntS
    rw [(ntHd_proto p.head which to).1]
    split
    · omega
    · rename_i hn
      intro e0
      exact hn ⟨e0, h17⟩
/-- Every packet may. -/
theorem ntMay_of {b : List UInt8} (hE : pkErr b = 0) {which : Nat} (hw : which = 0 ∨ which = 1) {to : Ad} (tw : to.Wide) (t6 : to.six = (pkRead b).head.six) : ∃ pos k, NtMay b (pkRead b) pos k which to := by
  have hR := pkRead_is hE
  have hI := pkErr_is b
  rw [hE] at hI
  have h0 : pkRE b = 0 := by
    by_cases h0 : pkRE b = 0
    · exact h0
    · rw [if_pos h0] at hI; omega
  rw [if_neg (by omega)] at hI
  obtain ⟨pos, p1, p2, p3, p4⟩ := pkRE_pos h0
  have hpt : (pkRH b).part = false := by
    cases hp : (pkRH b).part with
    | false => rfl
    | true => rw [hp, if_pos rfl] at hI; omega
  rw [hpt, if_neg (by decide), p1, Int.toNat_natCast] at hI
  rw [p1, Int.toNat_natCast] at hR
  have hl : (b.drop pos).length = b.length - pos := List.length_drop ..
  have hS : sgRead (pkRH b) (b.drop pos) = sgHd (pkRH b) (b.drop pos) := by unfold sgRead; rw [if_pos hI.symm]
  rw [hS] at hR
  have h6 : (pkRead b).head.six = true → 40 ≤ pos := by
    rw [hR]
    intro hs
    obtain ⟨k1, k2, _⟩ := pkErr_parts hE
    have hb0 : b.length ≠ 0 := fun z => by unfold pkErr at hE; rw [if_pos z] at hE; omega
    rcases k1 with k1 | k1
    · exfalso
      have : pkRH b = ifRead b := by unfold pkRH; rw [if_neg hb0, if_pos k1]
      have k2' : ifErr b = 0 := by unfold pkE at k2; rwa [if_pos k1] at k2
      rw [this] at hs
      unfold ifRead at hs
      rw [if_pos k2'] at hs
      cases hs
    · have e : pkRH b = sxRead b := by unfold pkRH; rw [if_neg hb0, if_neg (by omega), if_pos k1]
      have k2' : sxErr b = 0 := by unfold pkE at k2; rwa [if_neg (by omega)] at k2
      obtain ⟨m, m1, m2, _⟩ := sxRead_pos k2'
      rw [e, m1] at p1
      omega
  have hown : to.own.length = if (pkRead b).head.six then 16 else 4 := by rw [own_length tw, t6]
  have hwd := pkRH_wide b
  have hhead : (pkRead b).head = pkRH b := by rw [hR]
  have hsg : (pkRead b).sg = sgHd (pkRH b) (b.drop pos) := by rw [hR]
  have hc : ((pkRH b).proto = 6 ∧ 20 ≤ b.length - pos) ∨ ((pkRH b).proto = 17 ∧ 8 ≤ b.length - pos) := by
    unfold sgErr at hI
    by_cases q6 : (pkRH b).proto = 6
    · rw [if_pos q6] at hI
      refine .inl ⟨q6, ?_⟩
      unfold sgTcp at hI
      by_cases z : (b.drop pos).length < 20
      · rw [if_pos z] at hI; omega
      · omega
    · rw [if_neg q6] at hI
      by_cases q17 : (pkRH b).proto = 17
      · rw [if_pos q17] at hI
        refine .inr ⟨q17, ?_⟩
        unfold sgUdp at hI
        by_cases z : (b.drop pos).length < 8
        · rw [if_pos z] at hI; omega
        · omega
      · rw [if_neg q17] at hI; omega
  rcases hc with ⟨c1, c2⟩ | ⟨c1, c2⟩
  · refine ⟨pos, pos + 16, ⟨by rw [hhead]; exact p1, ⟨?_, by omega, by omega, by omega⟩, ⟨p2, h6⟩, hown, p4, hw, ?_, by rw [hhead]; exact hwd, tw⟩⟩
    · rw [hsg]
      unfold sgHd
      rw [if_pos c1, Nat.add_sub_cancel_left]
      rfl
    · rw [hhead, c1]
      intro e
      exact absurd e (by decide)
  · refine ⟨pos, pos + 6, ⟨by rw [hhead]; exact p1, ⟨?_, by omega, by omega, by omega⟩, ⟨p2, h6⟩, hown, p4, hw, fun _ => rfl, by rw [hhead]; exact hwd, tw⟩⟩
    rw [hsg]
    unfold sgHd
    rw [if_neg (by rw [c1]; decide), Nat.add_sub_cancel_left]
    rfl
/-- What is wrong; what becomes of it. -/
def ntErr (l : List UInt8) (to : Ad) (port : Nat) : Nat := if pkErr l ≠ 0 then pkErr l else if to.good = true ∧ to.six = (pkRead l).head.six ∧ port ≠ 0 then 0 else 1
def ntPos (l : List UInt8) : Nat := (pkRead l).head.pos.toNat
def ntK (l : List UInt8) : Nat := ntPos l + (pkRead l).sg.sumAt.toNat
def ntRes (l : List UInt8) (which : Nat) (to : Ad) (port : Nat) : List UInt8 := if ntErr l to port = 0 then ntOut l (pkRead l) (ntPos l) (ntK l) which to port else []
theorem ntErr_zero {l : List UInt8} {to : Ad} {port : Nat} (h : ntErr l to port = 0) : pkErr l = 0 ∧ to.good = true ∧ to.six = (pkRead l).head.six ∧ port ≠ 0 := by
  unfold ntErr at h
  by_cases h0 : pkErr l = 0
  · rw [if_neg (by omega)] at h
    by_cases h1 : to.good = true ∧ to.six = (pkRead l).head.six ∧ port ≠ 0
    · exact ⟨h0, h1⟩
    · rw [if_neg h1] at h; omega
  · rw [if_pos h0] at h; omega
theorem ntMay {l : List UInt8} (hE : pkErr l = 0) {which : Nat} (hw : which = 0 ∨ which = 1) {to : Ad} (tw : to.Wide) (t6 : to.six = (pkRead l).head.six) : NtMay l (pkRead l) (ntPos l) (ntK l) which to := by
  obtain ⟨pos, k, h⟩ := ntMay_of hE hw tw t6
  have e1 : ntPos l = pos := by unfold ntPos; rw [h.at_]; rfl
  have e2 : ntK l = k := by
    obtain ⟨s1, s2, _⟩ := h.sum
    unfold ntK
    rw [e1, s1, Int.toNat_natCast]
    omega
  rw [e1, e2]
  exact h
theorem ntRes_ok {l : List UInt8} {which port : Nat} {to : Ad} (hw : which = 0 ∨ which = 1) (tw : to.Wide) (hp : port < 65536) (h : ntErr l to port = 0) :
    pkErr (ntRes l which to port) = 0 ∧ pkRead (ntRes l which to port) = ntPk (pkRead l) which to port ∧ (ntRes l which to port).length = l.length ∧ l.length ≤ 2048 := by
  obtain ⟨h0, h1, h2, h3⟩ := ntErr_zero h
  have hM := ntMay h0 hw tw h2
  have hI := ntOut_is hM hp
  have e : ntRes l which to port = ntOut l (pkRead l) (ntPos l) (ntK l) which to port := by unfold ntRes; rw [if_pos h]
  rw [e]
  obtain ⟨r1, r2⟩ := ntRead hw h0 h3 tw h1 h2 hI
  exact ⟨r1, r2, hI.len, hM.few⟩
theorem ntRes_no {l : List UInt8} {which port : Nat} {to : Ad} (h : ntErr l to port ≠ 0) : ntRes l which to port = [] := by unfold ntRes; rw [if_neg h]
theorem ntErr_of {l : List UInt8} {to : Ad} {port : Nat} (h : pkErr l ≠ 0) : ntErr l to port = pkErr l := by unfold ntErr; rw [if_pos h]
theorem ntErr_one {l : List UInt8} {to : Ad} {port : Nat} (h : pkErr l = 0) (h1 : ¬ (to.good = true ∧ to.six = (pkRead l).head.six ∧ port ≠ 0)) : ntErr l to port = 1 := by unfold ntErr; rw [if_neg (by omega), if_neg h1]
theorem ntErr_ok {l : List UInt8} {to : Ad} {port : Nat} (h : pkErr l = 0) (h1 : to.good = true ∧ to.six = (pkRead l).head.six ∧ port ≠ 0) : ntErr l to port = 0 := by unfold ntErr; rw [if_neg (by omega), if_pos h1]
end Go.Proofs.Ytejppekcniehpaa
