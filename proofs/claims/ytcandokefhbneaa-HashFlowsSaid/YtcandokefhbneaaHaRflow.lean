/-
  The document's Flow and Client (stanchionref18), by contracts: which bytes are told.
-/
import Derived.Test.YtcandokefhbneaaHaFlow
namespace Go.Proofs.Ytcandokefhbneaa
open Go.RowKit
set_option maxRecDepth 100000 in
set_option maxHeartbeats 1000000 in
theorem haRflow_any (seed : Nat) (f : Fl) (w : World) (hs : seed < 18446744073709551616) (hf : f.Wide) :
    Calls Try.prog 12 #[.int .u64 (seed : Int), flV f] w fun e w' => e = .returned (.int .u64 (haSum seed (flB f) : Nat)) ∧ Below w.heap.size w w' := by
  obtain ⟨i8, hi8, hz0, hz1, hz2⟩ := info_parts info_u8
  obtain ⟨X, hX⟩ : ∃ X, X = w.alloc (.cells (flC f).toArray 34) := ⟨_, rfl⟩
  have hXb : Hid (Below w.heap.size w X) := Lib.hid (by rw [hX]; exact up_alloc (Below.refl _ _) _)
  have hat : FlAt X w.heap.size f := by rw [hX]; exact heap_alloc_last w _
  have hlt : w.heap.size < X.heap.size := by rw [hX]; simp
  have hF : Hid (∀ W, Below X.heap.size X W → (W.rangeAt w.heap.size 0 (adC f.src) ∧ W.rangeAt w.heap.size 17 (adC f.dst) ∧ W.cell? ⟨w.heap.size, 36, none⟩ = some (.int .u8 (f.proto.toNat : Int))) ∧ (W.cell? ⟨w.heap.size, 34, none⟩ = some (.int .u16 (f.sport : Int)) ∧ W.cell? ⟨w.heap.size, 35, none⟩ = some (.int .u16 (f.dport : Int)))) := Lib.hid fun W hW => by
    have h1 : FlAt W w.heap.size f := hat.below hW hlt
    obtain ⟨c1, c2, c3⟩ := flC_rest hf h1
    exact ⟨⟨flC_src h1, flC_dst hf h1, c3⟩, c1, c2⟩
  have i1 := info_ad hf.1
  have i2 := info_ad hf.2.1
  have s1 := hf.2.2.1
  have s2 := hf.2.2.2
  have hl1 : f.src.own.length ≤ 16 := by rw [Ad.own_length hf.1]; split <;> omega
  have hl2 : f.dst.own.length ≤ 16 := by rw [Ad.own_length hf.2.1]; split <;> omega
  have u1 : IntKind.u64.wrap (f.sport : Int) = (f.sport : Int) := IntWalk.u64_in _ ⟨by omega, by omega⟩
  have u2 : IntKind.u64.wrap (f.dport : Int) = (f.dport : Int) := IntWalk.u64_in _ ⟨by omega, by omega⟩
  have HB1 := Lib.hid (rfB_any f.src hf.1)
  have HB2 := Lib.hid (rfB_any f.dst hf.2.1)
  have H5 := Lib.hid (rputB_any (f.src.own ++ f.dst.own) f.sport 2 (by omega) (by simp only [List.length_append]; omega) (by omega) (by omega))
  have H9 := Lib.hid (rputB_any ((f.src.own ++ f.dst.own) ++ be 2 f.sport) f.dport 2 (by omega) (by simp only [List.length_append, be_length]; omega) (by omega) (by omega))
  have HS := Lib.hid (haRef_of seed hs ((f.src.own ++ f.dst.own) ++ be 2 f.sport ++ be 2 f.dport ++ [f.proto]))
  rw [show (f.src.own ++ f.dst.own) ++ be 2 f.sport ++ be 2 f.dport ++ [f.proto] = flB f by simp [flB]] at HS
  have hfl : (f.src.own ++ f.dst.own) ++ be 2 f.sport ++ be 2 f.dport ++ [f.proto] = flB f := by simp [flB]
  rw [← hfl] at HS ⊢
  generalize haSum seed ((f.src.own ++ f.dst.own) ++ be 2 f.sport ++ be 2 f.dport ++ [f.proto]) = N at *
  rw [flV]
  replace hl1 := Lib.hid hl1
  replace hl2 := Lib.hid hl2
  clear hat hlt hf hs s1 s2 hfl
  generalize f.src.own = L1 at *
  generalize f.dst.own = L2 at *
  generalize hC1 : adC f.src = C1 at *
  generalize hC2 : adC f.dst = C2 at *
  generalize f.sport = a at *
  generalize f.dport = b at *
  generalize f.proto = p at *
  generalize (flC f).toArray = C at *
  have HBL : Hid (Below X.heap.size X X.drew) := Lib.hid (Below.refl _ _).drew
  clear hC1 hC2
  go_enter Try.func12, Try.ntmps12
  go_wp2_with fail
  rw [← hX]
  clear hX
  refine wp_region_held_drew (S := fun w' => w'.rangeAt w.heap.size 0 C1 ∧ w'.rangeAt w.heap.size 17 C2 ∧ w'.cell? ⟨w.heap.size, 36, none⟩ = some (.int .u8 (p.toNat : Int))) (by kernel_rfl) (hF.out _ HBL.out).1 (fun hHeld => ?_)
  refine th 0 ?_
  go_frame
  refine th 1 (v := .agg C1.toArray) ?_ (hy := fun wy hSw => by exact exec_load (t := 31) (x := .tmp 6) rfl (pv := .pointer (some ⟨w.heap.size, 0, none⟩)) rfl (run_loadAt_mid wy w.heap.size 0 31 C1 _ hSw.1 Try.underlying31 rfl i1))
  go_frame
  refine th 3 ?_
  go_frame
  refine th 4 (v := .agg C2.toArray) ?_ (hy := fun wy hSw => by exact exec_load (t := 31) (x := .tmp 9) rfl (pv := .pointer (some ⟨w.heap.size, 17, none⟩)) rfl (run_loadAt_mid wy w.heap.size 17 31 C2 _ hSw.2.1 Try.underlying31 rfl i2))
  go_frame
  refine wpAnyH_ready (rs := [2]) (by kernel_rfl) (by simp) (AllReadyH.cons (o := ⟨some 8, .call { callee := .value (.func 19), args := #[.tmp 7], argTypes := #[31] }, _, _, _, none⟩) rfl (fun K hK => ?_) AllReadyH.nil)
  rw [if_pos (by kernel_rfl)]
  go_simp
  refine (HB1.out _).mono ?_
  rintro _ wr1 ⟨AHM1, nHM1, cHM1, rfl, hv, hb⟩
  replace hv := hv.weaken (base' := X.heap.size) HBL.out.size
  replace HBL := Lib.hid (up HBL.out hb)
  have HM1 := Lib.hid hv
  clear hv hb
  dsimp only
  refine hK.out _ _ (((hF.out _ HBL.out).1)) (fun _ => ?_)
  clear hK K
  try go_frame
  refine wpAnyH_ready (rs := [5]) (by kernel_rfl) (by simp) (AllReadyH.cons (o := ⟨some 11, .call { callee := .value (.func 19), args := #[.tmp 10], argTypes := #[31] }, _, _, _, none⟩) rfl (fun K hK => ?_) AllReadyH.nil)
  rw [if_pos (by kernel_rfl)]
  go_simp
  refine (HB2.out _).mono ?_
  rintro _ wr2 ⟨AHR2, nHR2, cHR2, rfl, hv, hb⟩
  replace HM1 := Lib.hid (HM1.out.kept hb)
  replace HBL := Lib.hid (up HBL.out hb)
  have HR2 := Lib.hid hv.rd
  clear hv hb
  dsimp only
  refine hK.out _ _ (((hF.out _ HBL.out).1)) (fun _ => ?_)
  clear hK K
  try go_frame
  refine wpAnyH_ready (rs := [6]) (by kernel_rfl) (by simp) (AllReadyH.cons (o := ⟨some 12, .call { callee := .builtin .append, args := #[.tmp 8, .tmp 11], argTypes := #[23, 23] }, _, _, _, none⟩) rfl (fun K hK => ?_) AllReadyH.nil)
  rw [if_pos (by kernel_rfl)]
  refine op_append_rd (by rfl) (.tmp 8) (.tmp 11) 23 (by rfl) X.heap.size 5 i8 _ 1 Try.underlying23 hi8 hz0 hz1 hz2 rfl _ _ (by rfl) HM1.out _ _ _ (by rfl) HR2.out (cellsB_one _) (by simp only [cellsB_length, List.length_append, be_length, List.length_nil, List.length_cons]; have := hl1.out; have := hl2.out; omega) (by unfold maxLen; simp only [cellsB_length, List.length_append, be_length, List.length_nil, List.length_cons]; have := hl1.out; have := hl2.out; omega) HBL.out.size ?_
  intro vHE wr3 hown hbX _ _
  rw [← cellsB_append] at hown
  obtain ⟨AHE, nHE, cHE, hAv⟩ : ∃ A n c, vHE = .slice A n c := (by obtain ⟨A, c, e, _⟩ := hown.rd.bytes; exact ⟨A, _, c, e⟩)
  subst hAv
  replace HBL := Lib.hid (HBL.out.trans hbX)
  have HE := Lib.hid hown
  clear hown hbX HM1 HR2
  refine hK.out _ _ (((hF.out _ HBL.out).1)) (fun _ => ?_)
  clear hK K
  try go_frame
  refine th 7 ?_
  go_frame
  refine wpAnyH_done (by kernel_rfl) ?_ _
  have HER := Lib.hid HE.out.rd.drew
  replace HBL := Lib.hid (up_drew HBL.out)
  clear HE
  go_wp2_with fail
  refine wp_region_held_drew (S := fun w' => (w'.rangeAt w.heap.size 0 C1 ∧ w'.rangeAt w.heap.size 17 C2 ∧ w'.cell? ⟨w.heap.size, 36, none⟩ = some (.int .u8 (p.toNat : Int))) ∧ (w'.cell? ⟨w.heap.size, 34, none⟩ = some (.int .u16 (a : Int)) ∧ w'.cell? ⟨w.heap.size, 35, none⟩ = some (.int .u16 (b : Int)))) (by kernel_rfl) (hF.out _ HBL.out) (fun hHeld => ?_)
  refine th 0 ?_
  go_frame
  refine th 1 ?_
  go_frame
  refine th 2 ?_
  go_frame
  refine th 3 (v := .int .u16 (a : Int)) ?_ (hy := fun wy hSw => by (obtain ⟨⟨s1, s2, s3⟩, s4, s5⟩ := hSw; go_simp <;> with_reducible rfl))
  go_frame
  refine th 4 ?_
  go_frame
  refine th 6 ?_
  go_frame
  refine th 7 (v := .int .u16 (b : Int)) ?_ (hy := fun wy hSw => by (obtain ⟨⟨s1, s2, s3⟩, s4, s5⟩ := hSw; go_simp <;> with_reducible rfl))
  go_frame
  refine th 8 ?_
  go_frame
  refine th 10 ?_
  go_frame
  refine th 11 (v := .int .u8 (p.toNat : Int)) ?_ (hy := fun wy hSw => by (obtain ⟨⟨s1, s2, s3⟩, s4, s5⟩ := hSw; go_simp <;> with_reducible rfl))
  go_frame
  refine wpAnyH_ready (rs := [5, 12]) (by kernel_rfl) (by simp) (AllReadyH.cons (o := ⟨some 18, .call { callee := .value (.func 20), args := #[.tmp 14, .tmp 17, .const (.int .i64 2)], argTypes := #[23, 22, 3] }, _, _, _, none⟩) rfl (fun K hK => ?_) (AllReadyH.cons (o := ⟨some 25, .buildSlice 23 1 #[(0, .tmp 24)], _, _, _, none⟩) rfl (fun K hK => ?_) AllReadyH.nil))
  · rw [if_pos (by kernel_rfl)]
    go_simp
    refine (H5.out _ _ HER.out).mono ?_
    rintro _ ws1 ⟨AHP, nHP, cHP, rfl, hv, hb⟩
    replace HBL := Lib.hid (up HBL.out hb)
    clear HER
    have HP := Lib.hid hv.rd
    clear hv hb
    dsimp only
    refine hK.out _ _ ((hF.out _ HBL.out)) (fun _ => ?_)
    clear hK K
    try go_frame
    refine wpAnyH_ready (rs := [9, 12]) (by kernel_rfl) (by simp) (AllReadyH.cons (o := ⟨some 22, .call { callee := .value (.func 20), args := #[.tmp 18, .tmp 21, .const (.int .i64 2)], argTypes := #[23, 22, 3] }, _, _, _, none⟩) rfl (fun K hK => ?_) (AllReadyH.cons (o := ⟨some 25, .buildSlice 23 1 #[(0, .tmp 24)], _, _, _, none⟩) rfl (fun K hK => ?_) AllReadyH.nil))
    · rw [if_pos (by kernel_rfl)]
      go_simp
      refine (H9.out _ _ HP.out).mono ?_
      rintro _ ws2 ⟨AHM, nHM, cHM, rfl, hv, hb⟩
      replace hv := hv.weaken (base' := X.heap.size) HBL.out.size
      replace HBL := Lib.hid (up HBL.out hb)
      clear HP
      have HM := Lib.hid hv
      clear hv hb
      dsimp only
      refine hK.out _ _ ((hF.out _ HBL.out)) (fun _ => ?_)
      clear hK K
      try go_frame
      refine wpAnyH_ready (rs := [12]) (by kernel_rfl) (by simp) (AllReadyH.cons (o := ⟨some 25, .buildSlice 23 1 #[(0, .tmp 24)], _, _, _, none⟩) rfl (fun K hK => ?_) AllReadyH.nil)
      rw [if_pos (by kernel_rfl)]
      go_simp
      have hb := up_alloc (Below.refl ws2.heap.size ws2) (.cells #[.int .u8 (p.toNat : Int)] 5)
      have hr := (rd_one ws2 p).more (B' := (ws2.alloc (.cells #[.int .u8 (p.toNat : Int)] 5)).heap.size) (by simp)
      generalize ws2.alloc (.cells #[.int .u8 (p.toNat : Int)] 5) = ws3 at hb hr ⊢
      replace HM := Lib.hid (HM.out.kept hb)
      replace HBL := Lib.hid (up HBL.out hb)
      have HO := Lib.hid hr
      clear hb hr
      refine hK.out _ _ ((hF.out _ HBL.out)) (fun _ => ?_)
      clear hK K
      try go_frame
      refine wpAnyH_ready (rs := [13]) (by kernel_rfl) (by simp) (AllReadyH.cons (o := ⟨some 26, .call { callee := .builtin .append, args := #[.tmp 22, .tmp 25], argTypes := #[23, 23] }, _, _, _, none⟩) rfl (fun K hK => ?_) AllReadyH.nil)
      rw [if_pos (by kernel_rfl)]
      refine op_append_rd (by rfl) (.tmp 22) (.tmp 25) 23 (by rfl) X.heap.size 5 i8 _ 1 Try.underlying23 hi8 hz0 hz1 hz2 rfl _ _ (by rfl) HM.out _ _ _ (by rfl) HO.out (cellsB_one _) (by simp only [cellsB_length, List.length_append, be_length, List.length_nil, List.length_cons]; have := hl1.out; have := hl2.out; omega) (by unfold maxLen; simp only [cellsB_length, List.length_append, be_length, List.length_nil, List.length_cons]; have := hl1.out; have := hl2.out; omega) HBL.out.size ?_
      intro vHE2 ws4 hown hbX _ _
      rw [← cellsB_append] at hown
      obtain ⟨AHE2, nHE2, cHE2, hAv⟩ : ∃ A n c, vHE2 = .slice A n c := (by obtain ⟨A, c, e, _⟩ := hown.rd.bytes; exact ⟨A, _, c, e⟩)
      subst hAv
      replace HBL := Lib.hid (HBL.out.trans hbX)
      have HE2 := Lib.hid hown
      clear hown hbX HM HO
      refine hK.out _ _ ((hF.out _ HBL.out)) (fun _ => ?_)
      clear hK K
      try go_frame
      refine wpAnyH_ready (rs := [14]) (by kernel_rfl) (by simp) (AllReadyH.cons (o := ⟨some 27, .call { callee := .value (.func 9), args := #[.tmp 13, .tmp 26], argTypes := #[22, 23] }, _, _, _, none⟩) rfl (fun K hK => ?_) AllReadyH.nil)
      rw [if_pos (by kernel_rfl)]
      go_simp
      refine (HS.out _ _ HE2.out.rd).mono ?_
      rintro _ ws5 ⟨rfl, hb⟩
      replace HE2 := Lib.hid (HE2.out.kept hb)
      replace HBL := Lib.hid (up HBL.out hb)
      clear hb
      dsimp only
      refine hK.out _ _ ((hF.out _ HBL.out)) (fun _ => ?_)
      clear hK K
      try go_frame
      refine th 15 ?_
      go_frame
      refine wpAnyH_done (by kernel_rfl) ?_ _
      go_wp2_with fail
      go_ret
      exact ⟨rfl, hXb.out.trans (HBL.out.mono hXb.out.size)⟩
    · rw [if_pos (by kernel_rfl)]
      go_simp
      have hb := up_alloc (Below.refl ws1.heap.size ws1) (.cells #[.int .u8 (p.toNat : Int)] 5)
      have hr := (rd_one ws1 p).more (B' := (ws1.alloc (.cells #[.int .u8 (p.toNat : Int)] 5)).heap.size) (by simp)
      generalize ws1.alloc (.cells #[.int .u8 (p.toNat : Int)] 5) = ws2 at hb hr ⊢
      replace HP := Lib.hid ((HP.out.below hb).more hb.size)
      replace HBL := Lib.hid (up HBL.out hb)
      have HO := Lib.hid hr
      clear hb hr
      refine hK.out _ _ ((hF.out _ HBL.out)) (fun _ => ?_)
      clear hK K
      try go_frame
      refine wpAnyH_ready (rs := [9]) (by kernel_rfl) (by simp) (AllReadyH.cons (o := ⟨some 22, .call { callee := .value (.func 20), args := #[.tmp 18, .tmp 21, .const (.int .i64 2)], argTypes := #[23, 22, 3] }, _, _, _, none⟩) rfl (fun K hK => ?_) AllReadyH.nil)
      rw [if_pos (by kernel_rfl)]
      go_simp
      refine (H9.out _ _ HP.out).mono ?_
      rintro _ ws3 ⟨AHM, nHM, cHM, rfl, hv, hb⟩
      replace hv := hv.weaken (base' := X.heap.size) HBL.out.size
      replace HO := Lib.hid ((HO.out.below hb).more hb.size)
      replace HBL := Lib.hid (up HBL.out hb)
      clear HP
      have HM := Lib.hid hv
      clear hv hb
      dsimp only
      refine hK.out _ _ ((hF.out _ HBL.out)) (fun _ => ?_)
      clear hK K
      try go_frame
      refine wpAnyH_ready (rs := [13]) (by kernel_rfl) (by simp) (AllReadyH.cons (o := ⟨some 26, .call { callee := .builtin .append, args := #[.tmp 22, .tmp 25], argTypes := #[23, 23] }, _, _, _, none⟩) rfl (fun K hK => ?_) AllReadyH.nil)
      rw [if_pos (by kernel_rfl)]
      refine op_append_rd (by rfl) (.tmp 22) (.tmp 25) 23 (by rfl) X.heap.size 5 i8 _ 1 Try.underlying23 hi8 hz0 hz1 hz2 rfl _ _ (by rfl) HM.out _ _ _ (by rfl) HO.out (cellsB_one _) (by simp only [cellsB_length, List.length_append, be_length, List.length_nil, List.length_cons]; have := hl1.out; have := hl2.out; omega) (by unfold maxLen; simp only [cellsB_length, List.length_append, be_length, List.length_nil, List.length_cons]; have := hl1.out; have := hl2.out; omega) HBL.out.size ?_
      intro vHE2 ws4 hown hbX _ _
      rw [← cellsB_append] at hown
      obtain ⟨AHE2, nHE2, cHE2, hAv⟩ : ∃ A n c, vHE2 = .slice A n c := (by obtain ⟨A, c, e, _⟩ := hown.rd.bytes; exact ⟨A, _, c, e⟩)
      subst hAv
      replace HBL := Lib.hid (HBL.out.trans hbX)
      have HE2 := Lib.hid hown
      clear hown hbX HM HO
      refine hK.out _ _ ((hF.out _ HBL.out)) (fun _ => ?_)
      clear hK K
      try go_frame
      refine wpAnyH_ready (rs := [14]) (by kernel_rfl) (by simp) (AllReadyH.cons (o := ⟨some 27, .call { callee := .value (.func 9), args := #[.tmp 13, .tmp 26], argTypes := #[22, 23] }, _, _, _, none⟩) rfl (fun K hK => ?_) AllReadyH.nil)
      rw [if_pos (by kernel_rfl)]
      go_simp
      refine (HS.out _ _ HE2.out.rd).mono ?_
      rintro _ ws5 ⟨rfl, hb⟩
      replace HE2 := Lib.hid (HE2.out.kept hb)
      replace HBL := Lib.hid (up HBL.out hb)
      clear hb
      dsimp only
      refine hK.out _ _ ((hF.out _ HBL.out)) (fun _ => ?_)
      clear hK K
      try go_frame
      refine th 15 ?_
      go_frame
      refine wpAnyH_done (by kernel_rfl) ?_ _
      go_wp2_with fail
      go_ret
      exact ⟨rfl, hXb.out.trans (HBL.out.mono hXb.out.size)⟩
  · rw [if_pos (by kernel_rfl)]
    go_simp
    rw [show (wr3.alloc (.cells #[.int .u8 (p.toNat : Int)] 5)).drew = wr3.drew.alloc (.cells #[.int .u8 (p.toNat : Int)] 5) from rfl]
    have hb := up_alloc (Below.refl wr3.drew.heap.size wr3.drew) (.cells #[.int .u8 (p.toNat : Int)] 5)
    have hr := (rd_one wr3.drew p).more (B' := (wr3.drew.alloc (.cells #[.int .u8 (p.toNat : Int)] 5)).heap.size) (by simp)
    generalize wr3.drew.alloc (.cells #[.int .u8 (p.toNat : Int)] 5) = ws1 at hb hr ⊢
    replace HER := Lib.hid ((HER.out.below hb).more hb.size)
    replace HBL := Lib.hid (up HBL.out hb)
    have HO := Lib.hid hr
    clear hb hr
    refine hK.out _ _ ((hF.out _ HBL.out)) (fun _ => ?_)
    clear hK K
    try go_frame
    refine wpAnyH_ready (rs := [5]) (by kernel_rfl) (by simp) (AllReadyH.cons (o := ⟨some 18, .call { callee := .value (.func 20), args := #[.tmp 14, .tmp 17, .const (.int .i64 2)], argTypes := #[23, 22, 3] }, _, _, _, none⟩) rfl (fun K hK => ?_) AllReadyH.nil)
    rw [if_pos (by kernel_rfl)]
    go_simp
    refine (H5.out _ _ HER.out).mono ?_
    rintro _ ws2 ⟨AHP, nHP, cHP, rfl, hv, hb⟩
    replace HO := Lib.hid ((HO.out.below hb).more hb.size)
    replace HBL := Lib.hid (up HBL.out hb)
    clear HER
    have HP := Lib.hid hv.rd
    clear hv hb
    dsimp only
    refine hK.out _ _ ((hF.out _ HBL.out)) (fun _ => ?_)
    clear hK K
    try go_frame
    refine wpAnyH_ready (rs := [9]) (by kernel_rfl) (by simp) (AllReadyH.cons (o := ⟨some 22, .call { callee := .value (.func 20), args := #[.tmp 18, .tmp 21, .const (.int .i64 2)], argTypes := #[23, 22, 3] }, _, _, _, none⟩) rfl (fun K hK => ?_) AllReadyH.nil)
    rw [if_pos (by kernel_rfl)]
    go_simp
    refine (H9.out _ _ HP.out).mono ?_
    rintro _ ws3 ⟨AHM, nHM, cHM, rfl, hv, hb⟩
    replace hv := hv.weaken (base' := X.heap.size) HBL.out.size
    replace HO := Lib.hid ((HO.out.below hb).more hb.size)
    replace HBL := Lib.hid (up HBL.out hb)
    clear HP
    have HM := Lib.hid hv
    clear hv hb
    dsimp only
    refine hK.out _ _ ((hF.out _ HBL.out)) (fun _ => ?_)
    clear hK K
    try go_frame
    refine wpAnyH_ready (rs := [13]) (by kernel_rfl) (by simp) (AllReadyH.cons (o := ⟨some 26, .call { callee := .builtin .append, args := #[.tmp 22, .tmp 25], argTypes := #[23, 23] }, _, _, _, none⟩) rfl (fun K hK => ?_) AllReadyH.nil)
    rw [if_pos (by kernel_rfl)]
    refine op_append_rd (by rfl) (.tmp 22) (.tmp 25) 23 (by rfl) X.heap.size 5 i8 _ 1 Try.underlying23 hi8 hz0 hz1 hz2 rfl _ _ (by rfl) HM.out _ _ _ (by rfl) HO.out (cellsB_one _) (by simp only [cellsB_length, List.length_append, be_length, List.length_nil, List.length_cons]; have := hl1.out; have := hl2.out; omega) (by unfold maxLen; simp only [cellsB_length, List.length_append, be_length, List.length_nil, List.length_cons]; have := hl1.out; have := hl2.out; omega) HBL.out.size ?_
    intro vHE2 ws4 hown hbX _ _
    rw [← cellsB_append] at hown
    obtain ⟨AHE2, nHE2, cHE2, hAv⟩ : ∃ A n c, vHE2 = .slice A n c := (by obtain ⟨A, c, e, _⟩ := hown.rd.bytes; exact ⟨A, _, c, e⟩)
    subst hAv
    replace HBL := Lib.hid (HBL.out.trans hbX)
    have HE2 := Lib.hid hown
    clear hown hbX HM HO
    refine hK.out _ _ ((hF.out _ HBL.out)) (fun _ => ?_)
    clear hK K
    try go_frame
    refine wpAnyH_ready (rs := [14]) (by kernel_rfl) (by simp) (AllReadyH.cons (o := ⟨some 27, .call { callee := .value (.func 9), args := #[.tmp 13, .tmp 26], argTypes := #[22, 23] }, _, _, _, none⟩) rfl (fun K hK => ?_) AllReadyH.nil)
    rw [if_pos (by kernel_rfl)]
    go_simp
    refine (HS.out _ _ HE2.out.rd).mono ?_
    rintro _ ws5 ⟨rfl, hb⟩
    replace HE2 := Lib.hid (HE2.out.kept hb)
    replace HBL := Lib.hid (up HBL.out hb)
    clear hb
    dsimp only
    refine hK.out _ _ ((hF.out _ HBL.out)) (fun _ => ?_)
    clear hK K
    try go_frame
    refine th 15 ?_
    go_frame
    refine wpAnyH_done (by kernel_rfl) ?_ _
    go_wp2_with fail
    go_ret
    exact ⟨rfl, hXb.out.trans (HBL.out.mono hXb.out.size)⟩
set_option maxRecDepth 100000 in
set_option maxHeartbeats 1000000 in
theorem haRclient_any (seed : Nat) (q : Pf) (n : Nat) (w : World) (hs : seed < 18446744073709551616) (hq : q.a.Wide) (hn : IntKind.u64.wrap q.bits = (n : Int)) :
    Calls Try.prog 14 #[.int .u64 (seed : Int), pfV q] w fun e w' => e = .returned (.int .u64 (haSum seed (pfB q.a n) : Nat)) ∧ Below w.heap.size w w' := by
  obtain ⟨i8, hi8, hz0, hz1, hz2⟩ := info_parts info_u8
  obtain ⟨y, hy⟩ : ∃ y, y = UInt8.ofNat n := ⟨_, rfl⟩
  have hyb : q.bits % 256 = (y.toNat : Int) := by
    have h : q.bits % 18446744073709551616 = (n : Int) := hn
    rw [hy]
    simp
    omega
  have hyw : IntKind.u8.wrap q.bits = (y.toNat : Int) := by rw [IntKind.wrap_u8']; exact hyb
  obtain ⟨X, hX⟩ : ∃ X, X = w.alloc (.cells (pfC q).toArray 38) := ⟨_, rfl⟩
  have hXb : Hid (Below w.heap.size w X) := Lib.hid (by rw [hX]; exact up_alloc (Below.refl _ _) _)
  have hat : PfAt X w.heap.size q := by rw [hX]; exact heap_alloc_last w _
  have hlt : w.heap.size < X.heap.size := by rw [hX]; simp
  have hF : Hid (∀ W, Below X.heap.size X W → W.rangeAt w.heap.size 0 (adC q.a) ∧ W.cell? ⟨w.heap.size, 17, none⟩ = some (.int .i64 q.bits)) := Lib.hid fun W hW => pfC_parts hq (hat.below hW hlt)
  have i1 := info_ad hq
  have hl1 : q.a.own.length ≤ 16 := by rw [Ad.own_length hq]; split <;> omega
  have HB1 := Lib.hid (rfB_any q.a hq)
  have HS := Lib.hid (haRef_of seed hs (q.a.own ++ [y]))
  have he : pfB q.a n = q.a.own ++ [y] := by rw [hy]; simp [pfB, be]
  rw [he]
  generalize haSum seed (q.a.own ++ [y]) = N at *
  rw [pfV]
  replace hl1 := Lib.hid hl1
  clear hat hlt hq hs he hy hn
  generalize q.a.own = L1 at *
  generalize hC1 : adC q.a = C1 at *
  generalize q.bits = b at *
  generalize (pfC q).toArray = C at *
  have HBL : Hid (Below X.heap.size X X.drew) := Lib.hid (Below.refl _ _).drew
  clear hC1
  go_enter Try.func14, Try.ntmps14
  go_wp2_with fail
  rw [← hX]
  clear hX
  refine wp_region_held_drew (S := fun w' => w'.rangeAt w.heap.size 0 C1 ∧ w'.cell? ⟨w.heap.size, 17, none⟩ = some (.int .i64 b)) (by kernel_rfl) (hF.out _ HBL.out) (fun hHeld => ?_)
  refine th 0 ?_
  go_frame
  refine th 1 ?_
  go_frame
  refine th 2 (v := .agg C1.toArray) ?_ (hy := fun wy hSw => by exact exec_load (t := 31) (x := .tmp 6) rfl (pv := .pointer (some ⟨w.heap.size, 0, none⟩)) rfl (run_loadAt_mid wy w.heap.size 0 31 C1 _ hSw.1 Try.underlying31 rfl i1))
  go_frame
  refine th 4 ?_
  go_frame
  refine th 5 (v := .int .i64 b) ?_ (hy := fun wy hSw => by (obtain ⟨s1, s2⟩ := hSw; go_simp <;> with_reducible rfl))
  go_frame
  refine th 6 ?_
  go_frame
  refine wpAnyH_ready (rs := [3, 7]) (by kernel_rfl) (by simp) (AllReadyH.cons (o := ⟨some 8, .call { callee := .value (.func 19), args := #[.tmp 7], argTypes := #[31] }, _, _, _, none⟩) rfl (fun K hK => ?_) (AllReadyH.cons (o := ⟨some 12, .buildSlice 23 1 #[(0, .tmp 11)], _, _, _, none⟩) rfl (fun K hK => ?_) AllReadyH.nil))
  · rw [if_pos (by kernel_rfl)]
    go_simp
    refine (HB1.out _).mono ?_
    rintro _ wr1 ⟨AHM1, nHM1, cHM1, rfl, hv, hb⟩
    replace hv := hv.weaken (base' := X.heap.size) HBL.out.size
    replace HBL := Lib.hid (up HBL.out hb)
    have HM1 := Lib.hid hv
    clear hv hb
    dsimp only
    refine hK.out _ _ (hF.out _ HBL.out) (fun _ => ?_)
    clear hK K
    try go_frame
    refine wpAnyH_ready (rs := [7]) (by kernel_rfl) (by simp) (AllReadyH.cons (o := ⟨some 12, .buildSlice 23 1 #[(0, .tmp 11)], _, _, _, none⟩) rfl (fun K hK => ?_) AllReadyH.nil)
    rw [if_pos (by kernel_rfl)]
    go_simp
    have hb := up_alloc (Below.refl wr1.heap.size wr1) (.cells #[.int .u8 (y.toNat : Int)] 5)
    have hr := (rd_one wr1 y).more (B' := (wr1.alloc (.cells #[.int .u8 (y.toNat : Int)] 5)).heap.size) (by simp)
    generalize wr1.alloc (.cells #[.int .u8 (y.toNat : Int)] 5) = wr2 at hb hr ⊢
    replace HM1 := Lib.hid (HM1.out.kept hb)
    replace HBL := Lib.hid (up HBL.out hb)
    have HO := Lib.hid hr
    clear hb hr
    refine hK.out _ _ (hF.out _ HBL.out) (fun _ => ?_)
    clear hK K
    try go_frame
    refine wpAnyH_ready (rs := [8]) (by kernel_rfl) (by simp) (AllReadyH.cons (o := ⟨some 13, .call { callee := .builtin .append, args := #[.tmp 8, .tmp 12], argTypes := #[23, 23] }, _, _, _, none⟩) rfl (fun K hK => ?_) AllReadyH.nil)
    rw [if_pos (by kernel_rfl)]
    refine op_append_rd (by rfl) (.tmp 8) (.tmp 12) 23 (by rfl) X.heap.size 5 i8 _ 1 Try.underlying23 hi8 hz0 hz1 hz2 rfl _ _ (by rfl) HM1.out _ _ _ (by rfl) HO.out (cellsB_one _) (by simp only [cellsB_length, List.length_cons, List.length_nil]; have := hl1.out; omega) (by unfold maxLen; simp only [cellsB_length, List.length_cons, List.length_nil]; have := hl1.out; omega) HBL.out.size ?_
    intro vHE wr3 hown hbX _ _
    rw [← cellsB_append] at hown
    obtain ⟨AHE, nHE, cHE, hAv⟩ : ∃ A n c, vHE = .slice A n c := (by obtain ⟨A, c, e, _⟩ := hown.rd.bytes; exact ⟨A, _, c, e⟩)
    subst hAv
    replace HBL := Lib.hid (HBL.out.trans hbX)
    have HE := Lib.hid hown
    clear hown hbX HM1 HO
    refine hK.out _ _ (hF.out _ HBL.out) (fun _ => ?_)
    clear hK K
    try go_frame
    refine wpAnyH_ready (rs := [9]) (by kernel_rfl) (by simp) (AllReadyH.cons (o := ⟨some 14, .call { callee := .value (.func 9), args := #[.tmp 5, .tmp 13], argTypes := #[22, 23] }, _, _, _, none⟩) rfl (fun K hK => ?_) AllReadyH.nil)
    rw [if_pos (by kernel_rfl)]
    go_simp
    refine (HS.out _ _ HE.out.rd).mono ?_
    rintro _ wr4 ⟨rfl, hb⟩
    replace HE := Lib.hid (HE.out.kept hb)
    replace HBL := Lib.hid (up HBL.out hb)
    clear hb
    dsimp only
    refine hK.out _ _ (hF.out _ HBL.out) (fun _ => ?_)
    clear hK K
    try go_frame
    refine th 10 ?_
    go_frame
    refine wpAnyH_done (by kernel_rfl) ?_ _
    go_wp2_with fail
    go_ret
    exact ⟨rfl, hXb.out.trans (HBL.out.mono hXb.out.size)⟩
  · rw [if_pos (by kernel_rfl)]
    go_simp
    rw [show (X.alloc (.cells #[.int .u8 (y.toNat : Int)] 5)).drew = X.drew.alloc (.cells #[.int .u8 (y.toNat : Int)] 5) from rfl]
    have hb := up_alloc (Below.refl X.drew.heap.size X.drew) (.cells #[.int .u8 (y.toNat : Int)] 5)
    have hr := (rd_one X.drew y).more (B' := (X.drew.alloc (.cells #[.int .u8 (y.toNat : Int)] 5)).heap.size) (by simp)
    generalize X.drew.alloc (.cells #[.int .u8 (y.toNat : Int)] 5) = wr1 at hb hr ⊢
    replace HBL := Lib.hid (up HBL.out hb)
    have HO := Lib.hid hr
    clear hb hr
    refine hK.out _ _ (hF.out _ HBL.out) (fun _ => ?_)
    clear hK K
    try go_frame
    refine wpAnyH_ready (rs := [3]) (by kernel_rfl) (by simp) (AllReadyH.cons (o := ⟨some 8, .call { callee := .value (.func 19), args := #[.tmp 7], argTypes := #[31] }, _, _, _, none⟩) rfl (fun K hK => ?_) AllReadyH.nil)
    rw [if_pos (by kernel_rfl)]
    go_simp
    refine (HB1.out _).mono ?_
    rintro _ wr2 ⟨AHM1, nHM1, cHM1, rfl, hv, hb⟩
    replace hv := hv.weaken (base' := X.heap.size) HBL.out.size
    replace HO := Lib.hid ((HO.out.below hb).more hb.size)
    replace HBL := Lib.hid (up HBL.out hb)
    have HM1 := Lib.hid hv
    clear hv hb
    dsimp only
    refine hK.out _ _ (hF.out _ HBL.out) (fun _ => ?_)
    clear hK K
    try go_frame
    refine wpAnyH_ready (rs := [8]) (by kernel_rfl) (by simp) (AllReadyH.cons (o := ⟨some 13, .call { callee := .builtin .append, args := #[.tmp 8, .tmp 12], argTypes := #[23, 23] }, _, _, _, none⟩) rfl (fun K hK => ?_) AllReadyH.nil)
    rw [if_pos (by kernel_rfl)]
    refine op_append_rd (by rfl) (.tmp 8) (.tmp 12) 23 (by rfl) X.heap.size 5 i8 _ 1 Try.underlying23 hi8 hz0 hz1 hz2 rfl _ _ (by rfl) HM1.out _ _ _ (by rfl) HO.out (cellsB_one _) (by simp only [cellsB_length, List.length_cons, List.length_nil]; have := hl1.out; omega) (by unfold maxLen; simp only [cellsB_length, List.length_cons, List.length_nil]; have := hl1.out; omega) HBL.out.size ?_
    intro vHE wr3 hown hbX _ _
    rw [← cellsB_append] at hown
    obtain ⟨AHE, nHE, cHE, hAv⟩ : ∃ A n c, vHE = .slice A n c := (by obtain ⟨A, c, e, _⟩ := hown.rd.bytes; exact ⟨A, _, c, e⟩)
    subst hAv
    replace HBL := Lib.hid (HBL.out.trans hbX)
    have HE := Lib.hid hown
    clear hown hbX HM1 HO
    refine hK.out _ _ (hF.out _ HBL.out) (fun _ => ?_)
    clear hK K
    try go_frame
    refine wpAnyH_ready (rs := [9]) (by kernel_rfl) (by simp) (AllReadyH.cons (o := ⟨some 14, .call { callee := .value (.func 9), args := #[.tmp 5, .tmp 13], argTypes := #[22, 23] }, _, _, _, none⟩) rfl (fun K hK => ?_) AllReadyH.nil)
    rw [if_pos (by kernel_rfl)]
    go_simp
    refine (HS.out _ _ HE.out.rd).mono ?_
    rintro _ wr4 ⟨rfl, hb⟩
    replace HE := Lib.hid (HE.out.kept hb)
    replace HBL := Lib.hid (up HBL.out hb)
    clear hb
    dsimp only
    refine hK.out _ _ (hF.out _ HBL.out) (fun _ => ?_)
    clear hK K
    try go_frame
    refine th 10 ?_
    go_frame
    refine wpAnyH_done (by kernel_rfl) ?_ _
    go_wp2_with fail
    go_ret
    exact ⟨rfl, hXb.out.trans (HBL.out.mono hXb.out.size)⟩
end Go.Proofs.Ytcandokefhbneaa
