/-
  The document's Pseudo, and its good: contracts.
-/
import Derived.Test.YtejppekcniehpaaSgB
import Derived.Test.YtejppekcniehpaaAdBy
import Derived.Test.YtejppekcniehpaaInetC
import Derived.Test.YtejppekcniehpaaRefNum
namespace Go.Proofs.Ytejppekcniehpaa
open Go.RowKit
theorem op_append_sg {P : Program} {w : World} {o : Oper} {a : Act} {K : Act → World → Prop} {Q : Exit → Act → World → Prop} (hgd : o.guard = none) (s x : Operand) (t : TypeId)
    (ho : o.op = .call { callee := .builtin .append, args := #[s, x], argTypes := #[t, t] })
    (base : Nat) (e : TypeId) (i : TypeInfo) (z : Value) (bytes : Nat) (ht : P.underlying t = some (.slice e)) (hi : P.info? e = some i) (hz : i.zero = some z)
    (hsize : i.size = 1) (hby : i.bytes = bytes) (hzs : z.cells.size = 1)
    (v : Value) (xs : List Value) (hs : a.eval s = v) (hown : Mine w base e v xs)
    (B : Nat) (y : Value) (news : List Value) (hx : a.eval x = y) (hr : Rd w B y news) (h1 : ∀ u ∈ news, u.oneCell' = true)
    (hbound : (xs.length + news.length) * bytes ≤ 140737488355328) (hlen : xs.length + news.length ≤ maxLen) (hbase : base ≤ w.heap.size)
    (h : ∀ v' w', Mine w' base e v' (xs ++ news) → Below base w w' → w.grownBy w' v.ownBlock → (v'.ownBlock = v.ownBlock ∨ v'.ownBlock = some w.heap.size) → K (a.put o.dst v') w') :
    Oper.wp P o a w K Q := by
  have hw : Region.wanted o (yielded #[] a.tmps) = true := by simp [Region.wanted, hgd]
  have hh := step_append_rd (ops := #[]) (E := True) (Q := Q) hgd s x t ho base e i z bytes ht hi hz hsize hby hzs v xs hs hown B y news hx hr h1 hbound hlen hbase h
  rw [if_pos hw] at hh
  exact hh
theorem cellsB_app (l m : List UInt8) : cellsB l ++ cellsB m = cellsB (l ++ m) := by simp [cellsB]
theorem ref_put_of (n : Nat) (hn : n < 18446744073709551616) (W : World) (v : Value) (l : List UInt8) (k : Nat) (kk : Int) (hk : kk = (k : Int)) (hl : l.length ≤ 10000) (h1 : 1 ≤ k) (h2 : k ≤ 8) (hr : Rd W W.heap.size v (cellsB l)) :
    Calls Try.prog 32 #[v, .int .u64 (n : Int), .int .i64 kk] W fun e w' => ∃ v', e = .returned v' ∧ Mine w' W.heap.size 5 v' (cellsB (l ++ be k n)) ∧ Below W.heap.size W w' := by
  subst hk
  obtain ⟨A, c, rfl, _, _, hr⟩ := hr.bytes
  exact refPut_any A c l n k W W.heap.size hr (Nat.le_refl _) (by omega) hn h1 h2
set_option maxRecDepth 100000 in
set_option maxHeartbeats 1000000 in
theorem rsPseudo_any (h : Hd) (hw : h.Wide) (z : Int) (n : Nat) (hz : IntKind.u64.wrap z = (n : Int)) (hn : n < 18446744073709551616) (w : World) :
    Calls Try.prog 17 #[hdV h, .int .i64 z] w fun e w' => ∃ v, e = .returned v ∧ Mine w' w.heap.size 5 v (cellsB (sgPseudo h n)) ∧ Below w.heap.size w w' := by
  obtain ⟨i, hi8, hz0, hz1, hz2⟩ := info_parts info_u8
  have hat : HdAt (w.alloc (.cells (hdC h).toArray 33)) w.heap.size h := heap_alloc_last w (.cells (hdC h).toArray 33)
  have hb0 := up_alloc (Below.refl w.heap.size w) (.cells (hdC h).toArray 33)
  have i1 := info_ad hw.1
  have i2 := info_ad hw.2
  obtain ⟨X, hX⟩ : ∃ X, X = w.alloc (.cells (hdC h).toArray 33) := ⟨_, rfl⟩
  have hXs : X.heap.size = w.heap.size + 1 := by rw [hX]; simp
  rw [← hX] at hat hb0
  have hF : Hid (∀ W, Below X.heap.size X W → (W.cell? ⟨w.heap.size, 0, none⟩ = some (.bool h.six) ∧ W.cell? ⟨w.heap.size, 1, none⟩ = some (.int .u8 (h.proto.toNat : Int))) ∧ W.rangeAt w.heap.size 3 (adC h.src) ∧ W.rangeAt w.heap.size 20 (adC h.dst)) := Lib.hid fun W hW => by
    have h1 : HdAt W w.heap.size h := hat.below hW (by omega)
    exact ⟨⟨hdC_six h1, hdC_proto h1⟩, hdC_src h1, hdC_dst hw h1⟩
  have hD : Hid (∀ W, Below X.heap.size X W → Below w.heap.size w W) := Lib.hid fun W hW => up hb0 hW
  have hXw : Hid (w.heap.size ≤ X.heap.size) := Lib.hid (by omega)
  have ll1 := own_length hw.1
  have ll2 := own_length hw.2
  have hl1 : Hid (h.src.own.length ≤ 16) := Lib.hid (by rw [ll1]; split <;> omega)
  have hl2 : Hid (h.dst.own.length ≤ 16) := Lib.hid (by rw [ll2]; split <;> omega)
  have H2 : Hid (∀ W, Calls Try.prog 14 #[.agg (adC h.src).toArray] W fun e w' => ∃ v, e = .returned v ∧ Mine w' W.heap.size 5 v (cellsB h.src.own) ∧ Below W.heap.size W w') := Lib.hid fun W => rfBytes_any h.src W hw.1
  have H3 : Hid (∀ W, Calls Try.prog 14 #[.agg (adC h.dst).toArray] W fun e w' => ∃ v, e = .returned v ∧ Mine w' W.heap.size 5 v (cellsB h.dst.own) ∧ Below W.heap.size W w') := Lib.hid fun W => rfBytes_any h.dst W hw.2
  have hps : sgPseudo h n = if h.six then (h.src.own ++ h.dst.own ++ be 4 n) ++ [0, 0, 0, h.proto] else (h.src.own ++ h.dst.own ++ [0, h.proto]) ++ be 2 n := by
    unfold sgPseudo
    split <;> simp only [List.append_assoc]
  have HP := Lib.hid (ref_put_of n hn)
  rw [hps, hdV]
  obtain ⟨p, hp⟩ : ∃ p, p = h.proto := ⟨_, rfl⟩
  rw [← hp] at hF ⊢
  have hxd : Hid (Below X.heap.size X X.drew) := Lib.hid (Below.refl _ _).drew
  cases hx : h.six with
  | true =>
    rw [hx] at hF
    rw [if_pos rfl]
    have HL : Hid (∀ W : World, Rd (W.alloc (.cells #[.int .u8 0, .int .u8 0, .int .u8 0, .int .u8 (p.toNat : Int)] 5)) (W.alloc (.cells #[.int .u8 0, .int .u8 0, .int .u8 0, .int .u8 (p.toNat : Int)] 5)).heap.size (.slice (some ⟨W.heap.size, 0, none⟩) 4 4) (cellsB [0, 0, 0, p])) := Lib.hid fun W => by
      rw [show (W.alloc (.cells #[.int .u8 0, .int .u8 0, .int .u8 0, .int .u8 (p.toNat : Int)] 5)).heap.size = W.heap.size + 1 by simp]
      exact rd_lit W 5 [0, 0, 0, p] (by simp)
    clear hps hp hx hw hat hb0 ll1 ll2 hn hXs
    generalize h.src.own = E1 at *
    generalize h.dst.own = E2 at *
    generalize hC1 : adC h.src = C1 at *
    generalize hC2 : adC h.dst = C2 at *
    generalize (hdC h).toArray = C at *
    clear hC1 hC2
    go_enter Try.func17, Try.ntmps17
    go_wp2_with fail
    rw [← hX]
    clear hX
    refine wp_region_held_drew (S := fun w' => w'.rangeAt w.heap.size 3 C1 ∧ w'.rangeAt w.heap.size 20 C2) (by kernel_rfl) (hF.out _ hxd.out).2 (fun hHeld => ?_)
    refine th 0 ?_
    go_frame
    refine th 1 (v := .agg C1.toArray) ?_ (hy := fun wy hSw => by exact exec_load (t := 25) (x := .tmp 6) rfl (pv := .pointer (some ⟨w.heap.size, 3, none⟩)) rfl (run_loadAt_mid wy w.heap.size 3 25 C1 _ hSw.1 Try.underlying25 rfl i1))
    go_frame
    refine th 3 ?_
    go_frame
    refine th 4 (v := .agg C2.toArray) ?_ (hy := fun wy hSw => by exact exec_load (t := 25) (x := .tmp 9) rfl (pv := .pointer (some ⟨w.heap.size, 20, none⟩)) rfl (run_loadAt_mid wy w.heap.size 20 25 C2 _ hSw.2 Try.underlying25 rfl i2))
    go_frame
    refine wpAnyH_ready (rs := [2]) (by kernel_rfl) (by simp) (AllReadyH.cons (o := ⟨some 8, .call { callee := .value (.func 14), args := #[.tmp 7], argTypes := #[25] }, _, _, _, none⟩) rfl (fun K hK => ?_) AllReadyH.nil)
    rw [if_pos (by kernel_rfl)]
    go_simp
    refine (H2.out _).mono ?_
    rintro _ w4 ⟨v4, rfl, hv4, hb4⟩
    have HB4 := Lib.hid (drew_start hb4)
    have HM4 : Hid (Mine w4 X.heap.size 5 v4 (cellsB E1)) := Lib.hid hv4
    clear hv4 hb4
    dsimp only
    refine hK.out _ _ ((hF.out _ HB4.out).2) (fun _ => ?_)
    clear hK K
    try go_frame
    refine wpAnyH_ready (rs := [5]) (by kernel_rfl) (by simp) (AllReadyH.cons (o := ⟨some 11, .call { callee := .value (.func 14), args := #[.tmp 10], argTypes := #[25] }, _, _, _, none⟩) rfl (fun K hK => ?_) AllReadyH.nil)
    rw [if_pos (by kernel_rfl)]
    go_simp
    refine (H3.out _).mono ?_
    rintro _ w5 ⟨v5, rfl, hv5, hb5⟩
    have HB5 := Lib.hid (up HB4.out hb5)
    have HM5 := Lib.hid (HM4.out.kept hb5)
    have HR5 := Lib.hid hv5.rd
    clear hv5 hb5 HM4
    dsimp only
    refine hK.out _ _ ((hF.out _ HB5.out).2) (fun _ => ?_)
    clear hK K
    try go_frame
    refine wpAnyH_ready (rs := [6]) (by kernel_rfl) (by simp) (AllReadyH.cons (o := ⟨some 12, .call { callee := .builtin .append, args := #[.tmp 8, .tmp 11], argTypes := #[22, 22] }, _, _, _, none⟩) rfl (fun K hK => ?_) AllReadyH.nil)
    rw [if_pos (by kernel_rfl)]
    refine op_append_sg rfl (.tmp 8) (.tmp 11) 22 (by rfl) (X.heap.size) 5 i _ 1 Try.underlying22 hi8 hz0 hz1 hz2 rfl _ (cellsB E1) (by rfl) (HM5.out) _ _ (cellsB E2) (by rfl) (HR5.out) (cellsB_one _) (by have := hl1.out; have := hl2.out; simp [cellsB_length, be_length]; omega) (by have := hl1.out; have := hl2.out; unfold maxLen; simp [cellsB_length, be_length]; omega) (HB5.out.size) ?_
    intro v6 w6 hown6 hb6 _ _
    rw [cellsB_app] at hown6
    have HM6 := Lib.hid hown6
    have HB6 := Lib.hid (HB5.out.trans hb6)
    clear hown6 hb6 HM5 HR5 HB4
    refine hK.out _ _ ((hF.out _ HB6.out).2) (fun _ => ?_)
    clear hK K
    try go_frame
    refine th 7 ?_
    go_frame
    refine wpAnyH_done (by kernel_rfl) ?_ _
    obtain ⟨⟨c0, _⟩, _⟩ := hF.out _ HB6.out
    go_wp2_with fail
    refine wp_region_held_drew (S := fun w' => w'.cell? ⟨w.heap.size, 1, none⟩ = some (.int .u8 (p.toNat : Int))) (by kernel_rfl) (hF.out _ HB6.out.drew).1.2 (fun hHeld => ?_)
    refine th 0 ?_
    go_frame
    refine th 1 ?_
    go_frame
    refine th 2 (v := .int .u64 (n : Int)) ?_ (hy := fun wy hSw => by (go_simp <;> with_reducible rfl))
    go_frame
    refine th 4 ?_
    go_frame
    refine th 5 ?_
    go_frame
    refine wpAnyH_ready (rs := [3, 6]) (by kernel_rfl) (by simp) (AllReadyH.cons (o := ⟨some 18, .call { callee := .value (.func 32), args := #[.tmp 15, .tmp 17, .const (.int .i64 4)], argTypes := #[22, 63, 3] }, _, _, _, none⟩) rfl (fun K hK => ?_) (AllReadyH.cons (o := ⟨some 21, .buildSlice 22 4 #[(0, .const (.int .u8 0)), (1, .const (.int .u8 0)), (2, .const (.int .u8 0)), (3, .tmp 20)], _, _, _, none⟩) rfl (fun K hK => ?_) AllReadyH.nil))
    · rw [if_pos (by kernel_rfl)]
      go_simp
      refine (HP.out w6.drew _ (E1 ++ E2) 4 4 rfl (by have := hl1.out; have := hl2.out; simp; omega) (by omega) (by omega) HM6.out.drew.rd).mono ?_
      rintro _ w7 ⟨v7, rfl, hv7, hb7⟩
      have HB7 := Lib.hid (up (HB6.out.drew) hb7)
      have HM7 := Lib.hid (hv7.weaken (base' := X.heap.size) HB6.out.size)
      clear hv7 hb7
      dsimp only
      refine hK.out _ _ ((hF.out _ HB7.out).1.2) (fun _ => ?_)
      clear hK K
      try go_frame
      refine wpAnyH_ready (rs := [6]) (by kernel_rfl) (by simp) (AllReadyH.cons (o := ⟨some 21, .buildSlice 22 4 #[(0, .const (.int .u8 0)), (1, .const (.int .u8 0)), (2, .const (.int .u8 0)), (3, .tmp 20)], _, _, _, none⟩) rfl (fun K hK => ?_) AllReadyH.nil)
      rw [if_pos (by kernel_rfl)]
      go_simp
      have hr := HL.out w7
      have hb := up_alloc HB7.out (.cells #[.int .u8 0, .int .u8 0, .int .u8 0, .int .u8 (p.toNat : Int)] 5)
      have hm := HM7.out.alloc (.cells #[.int .u8 0, .int .u8 0, .int .u8 0, .int .u8 (p.toNat : Int)] 5)
      generalize w7.alloc (.cells #[.int .u8 0, .int .u8 0, .int .u8 0, .int .u8 (p.toNat : Int)] 5) = w8 at hr hb hm ⊢
      have HR7 := Lib.hid hr
      replace HB7 := Lib.hid hb
      replace HM7 := Lib.hid hm
      clear hr hb hm
      refine hK.out _ _ ((hF.out _ HB7.out).1.2) (fun _ => ?_)
      clear hK K
      try go_frame
      refine wpAnyH_ready (rs := [7]) (by kernel_rfl) (by simp) (AllReadyH.cons (o := ⟨some 22, .call { callee := .builtin .append, args := #[.tmp 18, .tmp 21], argTypes := #[22, 22] }, _, _, _, none⟩) rfl (fun K hK => ?_) AllReadyH.nil)
      rw [if_pos (by kernel_rfl)]
      refine op_append_sg rfl (.tmp 18) (.tmp 21) 22 (by rfl) (X.heap.size) 5 i _ 1 Try.underlying22 hi8 hz0 hz1 hz2 rfl _ (cellsB (E1 ++ E2 ++ be 4 n)) (by rfl) (HM7.out) _ _ (cellsB [0, 0, 0, p]) (by rfl) (HR7.out) (cellsB_one _) (by have := hl1.out; have := hl2.out; simp [cellsB_length, be_length]; omega) (by have := hl1.out; have := hl2.out; unfold maxLen; simp [cellsB_length, be_length]; omega) (HB7.out.size) ?_
      intro v9 w9 hown9 hb9 _ _
      rw [cellsB_app] at hown9
      have HT := Lib.hid (And.intro (hown9.weaken hXw.out) (hD.out _ (HB7.out.trans hb9)))
      have hc := (hF.out _ (HB7.out.trans hb9)).1.2
      clear hown9 hb9
      refine hK.out _ _ (hc) (fun _ => ?_)
      clear hK K
      try go_frame
      refine th 8 ?_
      go_frame
      refine wpAnyH_done (by kernel_rfl) ?_ _
      go_wp2_with fail
      go_ret
      exact ⟨_, rfl, HT.out.1, HT.out.2⟩
    · rw [if_pos (by kernel_rfl)]
      go_simp
      rw [show (w6.alloc (.cells #[.int .u8 0, .int .u8 0, .int .u8 0, .int .u8 (p.toNat : Int)] 5)).drew = w6.drew.alloc (.cells #[.int .u8 0, .int .u8 0, .int .u8 0, .int .u8 (p.toNat : Int)] 5) from rfl]
      have hr := HL.out w6.drew
      have hb := up_alloc HB6.out.drew (.cells #[.int .u8 0, .int .u8 0, .int .u8 0, .int .u8 (p.toNat : Int)] 5)
      have hm := HM6.out.drew.alloc (.cells #[.int .u8 0, .int .u8 0, .int .u8 0, .int .u8 (p.toNat : Int)] 5)
      generalize w6.drew.alloc (.cells #[.int .u8 0, .int .u8 0, .int .u8 0, .int .u8 (p.toNat : Int)] 5) = wl at hr hb hm ⊢
      have HRl := Lib.hid hr
      have HBl := Lib.hid hb
      have HMl := Lib.hid hm
      clear hr hb hm
      refine hK.out _ _ ((hF.out _ HBl.out).1.2) (fun _ => ?_)
      clear hK K
      try go_frame
      refine wpAnyH_ready (rs := [3]) (by kernel_rfl) (by simp) (AllReadyH.cons (o := ⟨some 18, .call { callee := .value (.func 32), args := #[.tmp 15, .tmp 17, .const (.int .i64 4)], argTypes := #[22, 63, 3] }, _, _, _, none⟩) rfl (fun K hK => ?_) AllReadyH.nil)
      rw [if_pos (by kernel_rfl)]
      go_simp
      refine (HP.out wl _ (E1 ++ E2) 4 4 rfl (by have := hl1.out; have := hl2.out; simp; omega) (by omega) (by omega) HMl.out.rd).mono ?_
      rintro _ w7 ⟨v7, rfl, hv7, hb7⟩
      have HB7 := Lib.hid (up HBl.out hb7)
      have HM7 := Lib.hid (hv7.weaken (base' := X.heap.size) HBl.out.size)
      have HR7 := Lib.hid ((HRl.out.below hb7).more hb7.size)
      clear hv7 hb7
      dsimp only
      refine hK.out _ _ ((hF.out _ HB7.out).1.2) (fun _ => ?_)
      clear hK K
      try go_frame
      refine wpAnyH_ready (rs := [7]) (by kernel_rfl) (by simp) (AllReadyH.cons (o := ⟨some 22, .call { callee := .builtin .append, args := #[.tmp 18, .tmp 21], argTypes := #[22, 22] }, _, _, _, none⟩) rfl (fun K hK => ?_) AllReadyH.nil)
      rw [if_pos (by kernel_rfl)]
      refine op_append_sg rfl (.tmp 18) (.tmp 21) 22 (by rfl) (X.heap.size) 5 i _ 1 Try.underlying22 hi8 hz0 hz1 hz2 rfl _ (cellsB (E1 ++ E2 ++ be 4 n)) (by rfl) (HM7.out) _ _ (cellsB [0, 0, 0, p]) (by rfl) (HR7.out) (cellsB_one _) (by have := hl1.out; have := hl2.out; simp [cellsB_length, be_length]; omega) (by have := hl1.out; have := hl2.out; unfold maxLen; simp [cellsB_length, be_length]; omega) (HB7.out.size) ?_
      intro v9 w9 hown9 hb9 _ _
      rw [cellsB_app] at hown9
      have HT := Lib.hid (And.intro (hown9.weaken hXw.out) (hD.out _ (HB7.out.trans hb9)))
      have hc := (hF.out _ (HB7.out.trans hb9)).1.2
      clear hown9 hb9
      refine hK.out _ _ (hc) (fun _ => ?_)
      clear hK K
      try go_frame
      refine th 8 ?_
      go_frame
      refine wpAnyH_done (by kernel_rfl) ?_ _
      go_wp2_with fail
      go_ret
      exact ⟨_, rfl, HT.out.1, HT.out.2⟩
  | false =>
    rw [hx] at hF
    rw [if_neg (by decide)]
    have HL : Hid (∀ W : World, Rd (W.alloc (.cells #[.int .u8 0, .int .u8 (p.toNat : Int)] 5)) (W.heap.size + 1) (.slice (some ⟨W.heap.size, 0, none⟩) 2 2) (cellsB [0, p])) := Lib.hid fun W => rd_lit W 5 [0, p] (by simp)
    clear hps hp hx hw hat hb0 ll1 ll2 hn hXs
    generalize h.src.own = E1 at *
    generalize h.dst.own = E2 at *
    generalize hC1 : adC h.src = C1 at *
    generalize hC2 : adC h.dst = C2 at *
    generalize (hdC h).toArray = C at *
    clear hC1 hC2
    go_enter Try.func17, Try.ntmps17
    go_wp2_with fail
    rw [← hX]
    clear hX
    refine wp_region_held_drew (S := fun w' => w'.rangeAt w.heap.size 3 C1 ∧ w'.rangeAt w.heap.size 20 C2) (by kernel_rfl) (hF.out _ hxd.out).2 (fun hHeld => ?_)
    refine th 0 ?_
    go_frame
    refine th 1 (v := .agg C1.toArray) ?_ (hy := fun wy hSw => by exact exec_load (t := 25) (x := .tmp 6) rfl (pv := .pointer (some ⟨w.heap.size, 3, none⟩)) rfl (run_loadAt_mid wy w.heap.size 3 25 C1 _ hSw.1 Try.underlying25 rfl i1))
    go_frame
    refine th 3 ?_
    go_frame
    refine th 4 (v := .agg C2.toArray) ?_ (hy := fun wy hSw => by exact exec_load (t := 25) (x := .tmp 9) rfl (pv := .pointer (some ⟨w.heap.size, 20, none⟩)) rfl (run_loadAt_mid wy w.heap.size 20 25 C2 _ hSw.2 Try.underlying25 rfl i2))
    go_frame
    refine wpAnyH_ready (rs := [2]) (by kernel_rfl) (by simp) (AllReadyH.cons (o := ⟨some 8, .call { callee := .value (.func 14), args := #[.tmp 7], argTypes := #[25] }, _, _, _, none⟩) rfl (fun K hK => ?_) AllReadyH.nil)
    rw [if_pos (by kernel_rfl)]
    go_simp
    refine (H2.out _).mono ?_
    rintro _ w4 ⟨v4, rfl, hv4, hb4⟩
    have HB4 := Lib.hid (drew_start hb4)
    have HM4 : Hid (Mine w4 X.heap.size 5 v4 (cellsB E1)) := Lib.hid hv4
    clear hv4 hb4
    dsimp only
    refine hK.out _ _ ((hF.out _ HB4.out).2) (fun _ => ?_)
    clear hK K
    try go_frame
    refine wpAnyH_ready (rs := [5]) (by kernel_rfl) (by simp) (AllReadyH.cons (o := ⟨some 11, .call { callee := .value (.func 14), args := #[.tmp 10], argTypes := #[25] }, _, _, _, none⟩) rfl (fun K hK => ?_) AllReadyH.nil)
    rw [if_pos (by kernel_rfl)]
    go_simp
    refine (H3.out _).mono ?_
    rintro _ w5 ⟨v5, rfl, hv5, hb5⟩
    have HB5 := Lib.hid (up HB4.out hb5)
    have HM5 := Lib.hid (HM4.out.kept hb5)
    have HR5 := Lib.hid hv5.rd
    clear hv5 hb5 HM4
    dsimp only
    refine hK.out _ _ ((hF.out _ HB5.out).2) (fun _ => ?_)
    clear hK K
    try go_frame
    refine wpAnyH_ready (rs := [6]) (by kernel_rfl) (by simp) (AllReadyH.cons (o := ⟨some 12, .call { callee := .builtin .append, args := #[.tmp 8, .tmp 11], argTypes := #[22, 22] }, _, _, _, none⟩) rfl (fun K hK => ?_) AllReadyH.nil)
    rw [if_pos (by kernel_rfl)]
    refine op_append_sg rfl (.tmp 8) (.tmp 11) 22 (by rfl) (X.heap.size) 5 i _ 1 Try.underlying22 hi8 hz0 hz1 hz2 rfl _ (cellsB E1) (by rfl) (HM5.out) _ _ (cellsB E2) (by rfl) (HR5.out) (cellsB_one _) (by have := hl1.out; have := hl2.out; simp [cellsB_length, be_length]; omega) (by have := hl1.out; have := hl2.out; unfold maxLen; simp [cellsB_length, be_length]; omega) (HB5.out.size) ?_
    intro v6 w6 hown6 hb6 _ _
    rw [cellsB_app] at hown6
    have HM6 := Lib.hid hown6
    have HB6 := Lib.hid (HB5.out.trans hb6)
    clear hown6 hb6 HM5 HR5 HB4
    refine hK.out _ _ ((hF.out _ HB6.out).2) (fun _ => ?_)
    clear hK K
    try go_frame
    refine th 7 ?_
    go_frame
    refine wpAnyH_done (by kernel_rfl) ?_ _
    obtain ⟨⟨c0, c1⟩, _⟩ := hF.out _ HB6.out
    have HMa := Lib.hid (HM6.out.alloc (.cells #[.int .u8 0, .int .u8 (p.toNat : Int)] 5))
    have HBa := Lib.hid (up_alloc HB6.out (.cells #[.int .u8 0, .int .u8 (p.toNat : Int)] 5))
    go_wp2_with (first
      | (at_builtin; refine wpList_append_rd rfl (.tmp 23) (.tmp 26) 22 rfl X.heap.size 5 i _ 1 Try.underlying22 hi8 hz0 hz1 hz2 rfl _ (cellsB (E1 ++ E2)) rfl HMa.out _ _ (cellsB [0, p]) rfl (HL.out w6) (cellsB_one _) (by have := hl1.out; have := hl2.out; simp [cellsB_length]; omega) (by have := hl1.out; have := hl2.out; unfold maxLen; simp [cellsB_length]; omega) HBa.out.size ?_; intro v7 w7 hown7 hb7 _ _; rw [cellsB_app] at hown7; have HM7 := Lib.hid hown7; have HB7 := Lib.hid (HBa.out.trans hb7); clear hown7 hb7)
      | (go_at_call 32; refine (HP.out _ _ (E1 ++ E2 ++ [0, p]) 2 2 rfl (by have := hl1.out; have := hl2.out; simp; omega) (by omega) (by omega) HM7.out.rd).mono ?_; rintro _ w8 ⟨v8, rfl, hv8, hb8⟩; have HT := Lib.hid (And.intro (hv8.weaken (base' := w.heap.size) (hD.out _ HB7.out).size) (up (hD.out _ HB7.out) hb8)); clear hv8 hb8))
    go_ret
    exact ⟨_, rfl, HT.out.1, HT.out.2⟩
set_option maxRecDepth 100000 in
set_option maxHeartbeats 1000000 in
theorem rsGood_any (h : Hd) (hw : h.Wide) {A : Option Addr} {c : Nat} {l : List UInt8} {w : World} (hr : Rd w w.heap.size (.slice A l.length c) (cellsB l)) (hl : l.length ≤ 100000) :
    Calls Try.prog 37 #[hdV h, .slice A l.length c] w fun e w' => e = .returned (.bool (sgOk h l)) ∧ Below w.heap.size w w' := by
  obtain ⟨i, hi8, hz0, hz1, hz2⟩ := info_parts info_u8
  have hat := heap_alloc_last w (.cells (hdC h).toArray 33)
  have hb0 := up_alloc (Below.refl w.heap.size w) (.cells (hdC h).toArray 33)
  have hi := info_hdA hw
  have hp := Lib.hid (fun W => rsPseudo_any h hw (l.length : Int) l.length (IntWalk.u64_in _ (by omega)) (by omega) W)
  have hpl := (sgPseudo_length hw l.length).2.1
  have hok : ∀ s : Nat, s = sumOf (sgPseudo h l.length ++ l) → Value.bool ((s : Int) == 0) = Value.bool (sgOk h l) := fun s hs => by
    unfold sgOk
    rw [← hs]
    by_cases h0 : s = 0
    · subst h0; rfl
    · rw [beq_zero h0, decide_eq_false h0]
  have hrW : Hid (∀ W, Below (w.alloc (.cells (hdC h).toArray 33)).heap.size (w.alloc (.cells (hdC h).toArray 33)) W → Rd W W.heap.size (.slice A l.length c) (cellsB l) ∧ Below w.heap.size w W) := Lib.hid fun W hW => ⟨(hr.below (up hb0 hW)).more (up hb0 hW).size, up hb0 hW⟩
  have hG : Hid (∀ W v, Rd W W.heap.size v (cellsB (sgPseudo h l.length ++ l)) → Calls Try.prog 16 #[v] W fun e w' => ∃ s : Nat, s = sumOf (sgPseudo h l.length ++ l) ∧ e = .returned (.int .u16 (s : Int)) ∧ W = w') := Lib.hid fun W v hv => by
    obtain ⟨A, c, rfl, _, _, hv⟩ := hv.bytes
    exact (rinSum_any rfl (by simp; omega) hv).mono fun e w' h => ⟨_, rfl, h.1, h.2⟩
  have Hok := Lib.hid hok
  have hPl : Hid ((sgPseudo h l.length).length ≤ 40 ∧ l.length ≤ 100000) := Lib.hid ⟨hpl, hl⟩
  rw [hdV] at hp ⊢
  clear hr hpl hok hb0 hw hl
  generalize sgPseudo h l.length = P at *
  generalize sgOk h l = ok at *
  generalize hC : (hdC h).toArray = C at *
  generalize hm : l.length = m at *
  clear hC
  have Hm := Lib.hid hm
  clear hm
  go_enter Try.func37, Try.ntmps37
  go_wp2_with (first
    | ((with_reducible refine wpList_load_row (o := ⟨some 5, .load 33 (.tmp 2), _, _, _, _⟩) rfl 33 (.tmp 2) rfl w.heap.size ?_ 33 C (0, 0) _ hat Try.underlying33 rfl hi ?_); exact rfl)
    | (go_at_call 17; refine (hp.out _).mono ?_; rintro _ w1 ⟨v1, rfl, hv1, hb1⟩; have HB1 := Lib.hid hb1; have HM1 := Lib.hid hv1; clear hb1 hv1)
    | (at_builtin; refine wpList_append_rd rfl (.tmp 8) (.tmp 9) 22 rfl (w.alloc (.cells C 33)).heap.size 5 i _ 1 Try.underlying22 hi8 hz0 hz1 hz2 rfl _ (cellsB P) rfl HM1.out _ _ (cellsB l) rfl (hrW.out _ HB1.out).1 (cellsB_one _) (by have := hPl.out; have := Hm.out; simp [cellsB_length]; omega) (by have := hPl.out; have := Hm.out; unfold maxLen; simp [cellsB_length]; omega) HB1.out.size ?_; intro v2 w2 hown2 hb2 _ _; rw [cellsB_app] at hown2; have HR2 := Lib.hid hown2.rd; have HB2 := Lib.hid (hrW.out _ (HB1.out.trans hb2)).2; clear hown2 hb2)
    | (go_at_call 16; refine (hG.out _ _ HR2.out).mono ?_; rintro _ w3 ⟨s, hs, rfl, rfl⟩; have Hs := Lib.hid (Hok.out s hs); clear hs))
  go_ret
  exact ⟨by rw [← Hs.out]; rfl, HB2.out⟩
end Go.Proofs.Ytejppekcniehpaa
