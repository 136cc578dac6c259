/-
  hash.Flow and hash.Client, by contracts: which bytes are told.
-/
import Derived.Test.YtcandokefhbneaaHaLives
import Derived.Test.YtcandokefhbneaaFl
import Derived.Test.YtcandokefhbneaaAdPfx
import Derived.Test.YtcandokefhbneaaAdBy
import Derived.Test.YtcandokefhbneaaRdOf
import Derived.Test.YtcandokefhbneaaNumC
import Derived.Test.YtcandokefhbneaaCuts
import Derived.Test.YtcandokefhbneaaRefNum
namespace Go.Proofs.Ytcandokefhbneaa
open Go.RowKit
/-- The bytes of a flow; those of a prefix (n: its bits). -/
def flB (f : Fl) : List UInt8 := (f.src.own ++ f.dst.own) ++ ((be 2 f.sport ++ be 2 f.dport) ++ [f.proto])
def pfB (a : Ad) (n : Nat) : List UInt8 := a.own ++ be 1 n
theorem adB_any (a : Ad) (ha : a.Wide) : ∀ W, Calls Try.prog 18 #[.agg (adC a).toArray] W fun e w' => ∃ A n c, e = .returned (.slice A n c) ∧ Mine w' W.heap.size 5 (.slice A n c) (cellsB a.own) ∧ Below W.heap.size W w' := fun W => (adBytes_any a W ha).mono fun e w' h => mine_of h
theorem rfB_any (a : Ad) (ha : a.Wide) : ∀ W, Calls Try.prog 19 #[.agg (adC a).toArray] W fun e w' => ∃ A n c, e = .returned (.slice A n c) ∧ Mine w' W.heap.size 5 (.slice A n c) (cellsB a.own) ∧ Below W.heap.size W w' := fun W => (rfBytes_any a W ha).mono fun e w' h => mine_of h
theorem putB_any (l : List UInt8) (n k : Nat) (hl : l.length ≤ 1000) (h1 : 1 ≤ k) (h2 : k ≤ 8) : ∀ W v, Rd W W.heap.size v (cellsB l) → Calls Try.prog 17 #[v, .int .u64 (n : Int), .int .i64 (k : Int)] W fun e w' => ∃ A m c, e = .returned (.slice A m c) ∧ Mine w' W.heap.size 5 (.slice A m c) (cellsB (l ++ be k n)) ∧ Below W.heap.size W w' := fun W v hr => by
  obtain ⟨A, c, rfl, _, _, hr⟩ := hr.bytes
  exact (put_yes A c l n k W W.heap.size hr (Nat.le_refl _) (by omega) h1 h2).mono fun e w' h => mine_of h
theorem rputB_any (l : List UInt8) (n k : Nat) (hn : n < 18446744073709551616) (hl : l.length ≤ 1000) (h1 : 1 ≤ k) (h2 : k ≤ 8) : ∀ W v, Rd W W.heap.size v (cellsB l) → Calls Try.prog 20 #[v, .int .u64 (n : Int), .int .i64 (k : Int)] W fun e w' => ∃ A m c, e = .returned (.slice A m c) ∧ Mine w' W.heap.size 5 (.slice A m c) (cellsB (l ++ be k n)) ∧ Below W.heap.size W w' := fun W v hr => by
  obtain ⟨A, c, rfl, _, _, hr⟩ := hr.bytes
  exact (refPut_any A c l n k W W.heap.size hr (Nat.le_refl _) (by omega) hn h1 h2).mono fun e w' h => mine_of h
theorem rd_one (W : World) (p : UInt8) : Rd (W.alloc (.cells #[.int .u8 (p.toNat : Int)] 5)) (W.heap.size + 1) (.slice (some ⟨W.heap.size, 0, none⟩) 1 1) (cellsB [p]) := rd_lit W 5 [p] (by simp)
theorem haTwo_any (seed : Nat) (hs : seed < 18446744073709551616) (l m k : List UInt8) (hk : k = l ++ m) : ∀ W a b, Rd W W.heap.size a (cellsB l) → Rd W W.heap.size b (cellsB m) → Calls Try.prog 8 #[.int .u64 (seed : Int), .slice (some ⟨W.heap.size, 0, none⟩) 2 2] (W.alloc (.cells #[a, b] 23)) fun e w' => e = .returned (.int .u64 (haSum seed k : Nat)) ∧ Below W.heap.size W w' := fun W a b h1 h2 =>
  (haTwo seed hs h1 h2 hk).mono fun e w' h => ⟨h.1, h.2 ▸ up_alloc (Below.refl _ _) _⟩
theorem haFour_any (seed : Nat) (hs : seed < 18446744073709551616) (l m n o k : List UInt8) (hk : k = (l ++ m) ++ (n ++ o)) : ∀ W a b c d, Rd W W.heap.size a (cellsB l) → Rd W W.heap.size b (cellsB m) → Rd W W.heap.size c (cellsB n) → Rd W W.heap.size d (cellsB o) → Calls Try.prog 8 #[.int .u64 (seed : Int), .slice (some ⟨W.heap.size, 0, none⟩) 4 4] (W.alloc (.cells #[a, b, c, d] 23)) fun e w' => e = .returned (.int .u64 (haSum seed k : Nat)) ∧ Below W.heap.size W w' := fun W a b c d h1 h2 h3 h4 => by
  have hr : RdAll (W.alloc (.cells #[a, b, c, d] 23)) (W.heap.size + 1) (.slice (some ⟨W.heap.size, 0, none⟩) 4 4) [l, m, n, o] := by
    refine RdAll.lit W _ [a, b, c, d] [l, m, n, o] rfl (by unfold maxLen; simp) fun k u x hu hm => ?_
    match k, hu, hm with
    | 0, hu, hm => simp at hu hm; subst hu hm; exact h1
    | 1, hu, hm => simp at hu hm; subst hu hm; exact h2
    | 2, hu, hm => simp at hu hm; subst hu hm; exact h3
    | 3, hu, hm => simp at hu hm; subst hu hm; exact h4
  have h := haParts_any seed _ _ _ _ _ _ hs hr
  rw [show [l, m, n, o].flatten = k by rw [hk]; simp] at h
  exact h.mono fun e w' h => ⟨h.1, h.2 ▸ up_alloc (Below.refl _ _) _⟩
theorem haRef_of (seed : Nat) (hs : seed < 18446744073709551616) (l : List UInt8) : ∀ W v, Rd W W.heap.size v (cellsB l) → Calls Try.prog 9 #[.int .u64 (seed : Int), v] W fun e w' => e = .returned (.int .u64 (haSum seed l : Nat)) ∧ Below W.heap.size W w' := fun W v hr => by
  obtain ⟨A, c, rfl, _, _, hr⟩ := hr.bytes
  exact (haRefSum_any seed A c l W _ hs hr).mono fun e w' h => ⟨h.1, h.2 ▸ Below.refl _ _⟩
set_option maxRecDepth 100000 in
set_option maxHeartbeats 1000000 in
theorem haFlow_any (seed : Nat) (f : Fl) (w : World) (hs : seed < 18446744073709551616) (hf : f.Wide) :
    Calls Try.prog 11 #[.int .u64 (seed : Int), flV f] w fun e w' => e = .returned (.int .u64 (haSum seed (flB f) : Nat)) ∧ Below w.heap.size w w' := by
  obtain ⟨X, hX⟩ : ∃ X, X = w.alloc (.cells (flC f).toArray 34) := ⟨_, rfl⟩
  have hXb : Hid (Below w.heap.size w X) := Lib.hid (by rw [hX]; exact up_alloc (Below.refl _ _) _)
  have hat : FlAt X w.heap.size f := by rw [hX]; exact heap_alloc_last w _
  have hlt : w.heap.size < X.heap.size := by rw [hX]; simp
  have hF : Hid (∀ W, Below X.heap.size X W → (W.rangeAt w.heap.size 0 (adC f.src) ∧ W.rangeAt w.heap.size 17 (adC f.dst) ∧ W.cell? ⟨w.heap.size, 36, none⟩ = some (.int .u8 (f.proto.toNat : Int))) ∧ (W.cell? ⟨w.heap.size, 34, none⟩ = some (.int .u16 (f.sport : Int)) ∧ W.cell? ⟨w.heap.size, 35, none⟩ = some (.int .u16 (f.dport : Int)))) := Lib.hid fun W hW => by
    have h1 : FlAt W w.heap.size f := hat.below hW hlt
    obtain ⟨c1, c2, c3⟩ := flC_rest hf h1
    exact ⟨⟨flC_src h1, flC_dst hf h1, c3⟩, c1, c2⟩
  have i1 := info_ad hf.1
  have i2 := info_ad hf.2.1
  have s1 := hf.2.2.1
  have s2 := hf.2.2.2
  have hl1 : f.src.own.length ≤ 16 := by rw [Ad.own_length hf.1]; split <;> omega
  have hl2 : f.dst.own.length ≤ 16 := by rw [Ad.own_length hf.2.1]; split <;> omega
  have u1 : IntKind.u64.wrap (f.sport : Int) = (f.sport : Int) := IntWalk.u64_in _ ⟨by omega, by omega⟩
  have u2 : IntKind.u64.wrap (f.dport : Int) = (f.dport : Int) := IntWalk.u64_in _ ⟨by omega, by omega⟩
  have HB1 := Lib.hid (adB_any f.src hf.1)
  have HB2 := Lib.hid (adB_any f.dst hf.2.1)
  have H3 := Lib.hid (putB_any [] f.sport 2 (by simp) (by omega) (by omega))
  have H7 := Lib.hid (putB_any ([] ++ be 2 f.sport) f.dport 2 (by simp [be_length]) (by omega) (by omega))
  have HS := Lib.hid (haFour_any seed hs f.src.own f.dst.own ([] ++ be 2 f.sport ++ be 2 f.dport) [f.proto] (flB f) (by simp [flB]))
  generalize haSum seed (flB f) = N at *
  rw [flV]
  clear hat hlt hf hs s1 s2 hl1 hl2
  generalize f.src.own = L1 at *
  generalize f.dst.own = L2 at *
  generalize hC1 : adC f.src = C1 at *
  generalize hC2 : adC f.dst = C2 at *
  generalize f.sport = a at *
  generalize f.dport = b at *
  generalize f.proto = p at *
  generalize (flC f).toArray = C at *
  have HBL : Hid (Below X.heap.size X X.drew) := Lib.hid (Below.refl _ _).drew
  clear hC1 hC2
  go_enter Try.func11, Try.ntmps11
  go_wp2_with fail
  rw [← hX]
  clear hX
  refine wp_region_held_drew (S := fun w' => w'.cell? ⟨w.heap.size, 34, none⟩ = some (.int .u16 (a : Int)) ∧ w'.cell? ⟨w.heap.size, 35, none⟩ = some (.int .u16 (b : Int))) (by kernel_rfl) (hF.out _ HBL.out).2 (fun hHeld => ?_)
  refine th 0 ?_ (hy := by (intro wy hSw; obtain ⟨s1, s2⟩ := hSw; go_simp <;> with_reducible rfl))
  go_frame
  refine th 1 ?_ (hy := by (intro wy hSw; obtain ⟨s1, s2⟩ := hSw; go_simp <;> with_reducible rfl))
  go_frame
  refine th 2 ?_ (hy := by (intro wy hSw; obtain ⟨s1, s2⟩ := hSw; go_simp <;> with_reducible rfl))
  go_frame
  refine th 4 ?_ (hy := by (intro wy hSw; obtain ⟨s1, s2⟩ := hSw; go_simp <;> with_reducible rfl))
  go_frame
  refine th 5 ?_ (hy := by (intro wy hSw; obtain ⟨s1, s2⟩ := hSw; go_simp <;> with_reducible rfl))
  go_frame
  refine th 6 ?_ (hy := by (intro wy hSw; obtain ⟨s1, s2⟩ := hSw; go_simp <;> with_reducible rfl))
  go_frame
  refine wpAnyH_ready (rs := [3]) (by kernel_rfl) (by simp) (AllReadyH.cons (o := ⟨some 9, .call { callee := .value (.func 17), args := #[.const (.slice none 0 0), .tmp 8, .const (.int .i64 2)], argTypes := #[23, 22, 3] }, _, _, _, none⟩) rfl (fun K hK => ?_) AllReadyH.nil)
  rw [if_pos (by kernel_rfl)]
  go_simp
  refine (H3.out _ _ (Rd.nil _ _)).mono ?_
  rintro _ wr1 ⟨AHP, nHP, cHP, rfl, hv, hb⟩
  replace HBL := Lib.hid (up HBL.out hb)
  have HP := Lib.hid hv.rd
  clear hv hb
  dsimp only
  refine hK.out _ _ ((hF.out _ HBL.out).2) (fun _ => ?_)
  clear hK K
  try go_frame
  refine wpAnyH_ready (rs := [7]) (by kernel_rfl) (by simp) (AllReadyH.cons (o := ⟨some 13, .call { callee := .value (.func 17), args := #[.tmp 9, .tmp 12, .const (.int .i64 2)], argTypes := #[23, 22, 3] }, _, _, _, none⟩) rfl (fun K hK => ?_) AllReadyH.nil)
  rw [if_pos (by kernel_rfl)]
  go_simp
  refine (H7.out _ _ HP.out).mono ?_
  rintro _ wr2 ⟨AHQ, nHQ, cHQ, rfl, hv, hb⟩
  replace HBL := Lib.hid (up HBL.out hb)
  clear HP
  have HQ := Lib.hid hv.rd
  clear hv hb
  dsimp only
  refine hK.out _ _ ((hF.out _ HBL.out).2) (fun _ => ?_)
  clear hK K
  try go_frame
  refine th 8 ?_ (hy := by (intro wy hSw; obtain ⟨s1, s2⟩ := hSw; go_simp <;> with_reducible rfl))
  go_frame
  refine wpAnyH_done (by kernel_rfl) ?_ _
  replace HQ := Lib.hid HQ.out.drew
  replace HBL := Lib.hid (up_drew HBL.out)
  go_wp2_with fail
  refine wp_region_held_drew (S := fun w' => w'.rangeAt w.heap.size 0 C1 ∧ w'.rangeAt w.heap.size 17 C2 ∧ w'.cell? ⟨w.heap.size, 36, none⟩ = some (.int .u8 (p.toNat : Int))) (by kernel_rfl) (hF.out _ HBL.out).1 (fun hHeld => ?_)
  refine th 0 ?_
  go_frame
  refine th 1 ?_
  go_frame
  refine th 2 (v := .agg C1.toArray) ?_ (hy := fun wy hSw => by exact exec_load (t := 31) (x := .tmp 15) rfl (pv := .pointer (some ⟨w.heap.size, 0, none⟩)) rfl (run_loadAt_mid wy w.heap.size 0 31 C1 _ hSw.1 Try.underlying31 rfl i1))
  go_frame
  refine th 4 ?_
  go_frame
  refine th 5 (v := .agg C2.toArray) ?_ (hy := fun wy hSw => by exact exec_load (t := 31) (x := .tmp 18) rfl (pv := .pointer (some ⟨w.heap.size, 17, none⟩)) rfl (run_loadAt_mid wy w.heap.size 17 31 C2 _ hSw.2.1 Try.underlying31 rfl i2))
  go_frame
  refine th 7 ?_
  go_frame
  refine th 8 ?_
  go_frame
  refine th 9 (v := .int .u8 (p.toNat : Int)) ?_ (hy := fun wy hSw => by (obtain ⟨s1, s2, s3⟩ := hSw; go_simp <;> with_reducible rfl))
  go_frame
  refine wpAnyH_ready (rs := [3, 10]) (by kernel_rfl) (by simp) (AllReadyH.cons (o := ⟨some 17, .call { callee := .value (.func 18), args := #[.tmp 16], argTypes := #[31] }, _, _, _, none⟩) rfl (fun K hK => ?_) (AllReadyH.cons (o := ⟨some 24, .buildSlice 23 1 #[(0, .tmp 23)], _, _, _, none⟩) rfl (fun K hK => ?_) AllReadyH.nil))
  · rw [if_pos (by kernel_rfl)]
    go_simp
    refine (HB1.out _).mono ?_
    rintro _ ws1 ⟨AHR1, nHR1, cHR1, rfl, hv, hb⟩
    replace HQ := Lib.hid ((HQ.out.below hb).more hb.size)
    replace HBL := Lib.hid (up HBL.out hb)
    have HR1 := Lib.hid hv.rd
    clear hv hb
    dsimp only
    refine hK.out _ _ ((hF.out _ HBL.out).1) (fun _ => ?_)
    clear hK K
    try go_frame
    refine wpAnyH_ready (rs := [6, 10]) (by kernel_rfl) (by simp) (AllReadyH.cons (o := ⟨some 20, .call { callee := .value (.func 18), args := #[.tmp 19], argTypes := #[31] }, _, _, _, none⟩) rfl (fun K hK => ?_) (AllReadyH.cons (o := ⟨some 24, .buildSlice 23 1 #[(0, .tmp 23)], _, _, _, none⟩) rfl (fun K hK => ?_) AllReadyH.nil))
    · rw [if_pos (by kernel_rfl)]
      go_simp
      refine (HB2.out _).mono ?_
      rintro _ ws2 ⟨AHR2, nHR2, cHR2, rfl, hv, hb⟩
      replace HQ := Lib.hid ((HQ.out.below hb).more hb.size)
      replace HR1 := Lib.hid ((HR1.out.below hb).more hb.size)
      replace HBL := Lib.hid (up HBL.out hb)
      have HR2 := Lib.hid hv.rd
      clear hv hb
      dsimp only
      refine hK.out _ _ ((hF.out _ HBL.out).1) (fun _ => ?_)
      clear hK K
      try go_frame
      refine wpAnyH_ready (rs := [10]) (by kernel_rfl) (by simp) (AllReadyH.cons (o := ⟨some 24, .buildSlice 23 1 #[(0, .tmp 23)], _, _, _, none⟩) rfl (fun K hK => ?_) AllReadyH.nil)
      rw [if_pos (by kernel_rfl)]
      go_simp
      have hb := up_alloc (Below.refl ws2.heap.size ws2) (.cells #[.int .u8 (p.toNat : Int)] 5)
      have hr := (rd_one ws2 p).more (B' := (ws2.alloc (.cells #[.int .u8 (p.toNat : Int)] 5)).heap.size) (by simp)
      generalize ws2.alloc (.cells #[.int .u8 (p.toNat : Int)] 5) = ws3 at hb hr ⊢
      replace HQ := Lib.hid ((HQ.out.below hb).more hb.size)
      replace HR1 := Lib.hid ((HR1.out.below hb).more hb.size)
      replace HR2 := Lib.hid ((HR2.out.below hb).more hb.size)
      replace HBL := Lib.hid (up HBL.out hb)
      have HO := Lib.hid hr
      clear hb hr
      refine hK.out _ _ ((hF.out _ HBL.out).1) (fun _ => ?_)
      clear hK K
      try go_frame
      refine wpAnyH_ready (rs := [11]) (by kernel_rfl) (by simp) (AllReadyH.cons (o := ⟨some 25, .buildSlice 43 4 #[(0, .tmp 17), (1, .tmp 20), (2, .tmp 21), (3, .tmp 24)], _, _, _, none⟩) rfl (fun K hK => ?_) AllReadyH.nil)
      rw [if_pos (by kernel_rfl)]
      go_simp
      refine hK.out _ _ ((hF.out _ (up_alloc HBL.out _)).1) (fun _ => ?_)
      clear hK K
      try go_frame
      refine wpAnyH_ready (rs := [12]) (by kernel_rfl) (by simp) (AllReadyH.cons (o := ⟨some 26, .call { callee := .value (.func 8), args := #[.tmp 14, .tmp 25], argTypes := #[22, 43] }, _, _, _, none⟩) rfl (fun K hK => ?_) AllReadyH.nil)
      rw [if_pos (by kernel_rfl)]
      go_simp
      refine (HS.out _ _ _ _ _ HR1.out HR2.out HQ.out HO.out).mono ?_
      rintro _ ws5 ⟨rfl, hb⟩
      replace HQ := Lib.hid ((HQ.out.below hb).more hb.size)
      replace HR1 := Lib.hid ((HR1.out.below hb).more hb.size)
      replace HR2 := Lib.hid ((HR2.out.below hb).more hb.size)
      replace HO := Lib.hid ((HO.out.below hb).more hb.size)
      replace HBL := Lib.hid (up HBL.out hb)
      clear hb
      dsimp only
      refine hK.out _ _ ((hF.out _ HBL.out).1) (fun _ => ?_)
      clear hK K
      try go_frame
      refine th 13 ?_
      go_frame
      refine wpAnyH_done (by kernel_rfl) ?_ _
      go_wp2_with fail
      go_ret
      exact ⟨rfl, hXb.out.trans (HBL.out.mono hXb.out.size)⟩
    · rw [if_pos (by kernel_rfl)]
      go_simp
      have hb := up_alloc (Below.refl ws1.heap.size ws1) (.cells #[.int .u8 (p.toNat : Int)] 5)
      have hr := (rd_one ws1 p).more (B' := (ws1.alloc (.cells #[.int .u8 (p.toNat : Int)] 5)).heap.size) (by simp)
      generalize ws1.alloc (.cells #[.int .u8 (p.toNat : Int)] 5) = ws2 at hb hr ⊢
      replace HQ := Lib.hid ((HQ.out.below hb).more hb.size)
      replace HR1 := Lib.hid ((HR1.out.below hb).more hb.size)
      replace HBL := Lib.hid (up HBL.out hb)
      have HO := Lib.hid hr
      clear hb hr
      refine hK.out _ _ ((hF.out _ HBL.out).1) (fun _ => ?_)
      clear hK K
      try go_frame
      refine wpAnyH_ready (rs := [6]) (by kernel_rfl) (by simp) (AllReadyH.cons (o := ⟨some 20, .call { callee := .value (.func 18), args := #[.tmp 19], argTypes := #[31] }, _, _, _, none⟩) rfl (fun K hK => ?_) AllReadyH.nil)
      rw [if_pos (by kernel_rfl)]
      go_simp
      refine (HB2.out _).mono ?_
      rintro _ ws3 ⟨AHR2, nHR2, cHR2, rfl, hv, hb⟩
      replace HQ := Lib.hid ((HQ.out.below hb).more hb.size)
      replace HR1 := Lib.hid ((HR1.out.below hb).more hb.size)
      replace HO := Lib.hid ((HO.out.below hb).more hb.size)
      replace HBL := Lib.hid (up HBL.out hb)
      have HR2 := Lib.hid hv.rd
      clear hv hb
      dsimp only
      refine hK.out _ _ ((hF.out _ HBL.out).1) (fun _ => ?_)
      clear hK K
      try go_frame
      refine wpAnyH_ready (rs := [11]) (by kernel_rfl) (by simp) (AllReadyH.cons (o := ⟨some 25, .buildSlice 43 4 #[(0, .tmp 17), (1, .tmp 20), (2, .tmp 21), (3, .tmp 24)], _, _, _, none⟩) rfl (fun K hK => ?_) AllReadyH.nil)
      rw [if_pos (by kernel_rfl)]
      go_simp
      refine hK.out _ _ ((hF.out _ (up_alloc HBL.out _)).1) (fun _ => ?_)
      clear hK K
      try go_frame
      refine wpAnyH_ready (rs := [12]) (by kernel_rfl) (by simp) (AllReadyH.cons (o := ⟨some 26, .call { callee := .value (.func 8), args := #[.tmp 14, .tmp 25], argTypes := #[22, 43] }, _, _, _, none⟩) rfl (fun K hK => ?_) AllReadyH.nil)
      rw [if_pos (by kernel_rfl)]
      go_simp
      refine (HS.out _ _ _ _ _ HR1.out HR2.out HQ.out HO.out).mono ?_
      rintro _ ws5 ⟨rfl, hb⟩
      replace HQ := Lib.hid ((HQ.out.below hb).more hb.size)
      replace HR1 := Lib.hid ((HR1.out.below hb).more hb.size)
      replace HO := Lib.hid ((HO.out.below hb).more hb.size)
      replace HR2 := Lib.hid ((HR2.out.below hb).more hb.size)
      replace HBL := Lib.hid (up HBL.out hb)
      clear hb
      dsimp only
      refine hK.out _ _ ((hF.out _ HBL.out).1) (fun _ => ?_)
      clear hK K
      try go_frame
      refine th 13 ?_
      go_frame
      refine wpAnyH_done (by kernel_rfl) ?_ _
      go_wp2_with fail
      go_ret
      exact ⟨rfl, hXb.out.trans (HBL.out.mono hXb.out.size)⟩
  · rw [if_pos (by kernel_rfl)]
    go_simp
    rw [show (wr2.alloc (.cells #[.int .u8 (p.toNat : Int)] 5)).drew = wr2.drew.alloc (.cells #[.int .u8 (p.toNat : Int)] 5) from rfl]
    have hb := up_alloc (Below.refl wr2.drew.heap.size wr2.drew) (.cells #[.int .u8 (p.toNat : Int)] 5)
    have hr := (rd_one wr2.drew p).more (B' := (wr2.drew.alloc (.cells #[.int .u8 (p.toNat : Int)] 5)).heap.size) (by simp)
    generalize wr2.drew.alloc (.cells #[.int .u8 (p.toNat : Int)] 5) = ws1 at hb hr ⊢
    replace HQ := Lib.hid ((HQ.out.below hb).more hb.size)
    replace HBL := Lib.hid (up HBL.out hb)
    have HO := Lib.hid hr
    clear hb hr
    refine hK.out _ _ ((hF.out _ HBL.out).1) (fun _ => ?_)
    clear hK K
    try go_frame
    refine wpAnyH_ready (rs := [3]) (by kernel_rfl) (by simp) (AllReadyH.cons (o := ⟨some 17, .call { callee := .value (.func 18), args := #[.tmp 16], argTypes := #[31] }, _, _, _, none⟩) rfl (fun K hK => ?_) AllReadyH.nil)
    rw [if_pos (by kernel_rfl)]
    go_simp
    refine (HB1.out _).mono ?_
    rintro _ ws2 ⟨AHR1, nHR1, cHR1, rfl, hv, hb⟩
    replace HQ := Lib.hid ((HQ.out.below hb).more hb.size)
    replace HO := Lib.hid ((HO.out.below hb).more hb.size)
    replace HBL := Lib.hid (up HBL.out hb)
    have HR1 := Lib.hid hv.rd
    clear hv hb
    dsimp only
    refine hK.out _ _ ((hF.out _ HBL.out).1) (fun _ => ?_)
    clear hK K
    try go_frame
    refine wpAnyH_ready (rs := [6]) (by kernel_rfl) (by simp) (AllReadyH.cons (o := ⟨some 20, .call { callee := .value (.func 18), args := #[.tmp 19], argTypes := #[31] }, _, _, _, none⟩) rfl (fun K hK => ?_) AllReadyH.nil)
    rw [if_pos (by kernel_rfl)]
    go_simp
    refine (HB2.out _).mono ?_
    rintro _ ws3 ⟨AHR2, nHR2, cHR2, rfl, hv, hb⟩
    replace HQ := Lib.hid ((HQ.out.below hb).more hb.size)
    replace HO := Lib.hid ((HO.out.below hb).more hb.size)
    replace HR1 := Lib.hid ((HR1.out.below hb).more hb.size)
    replace HBL := Lib.hid (up HBL.out hb)
    have HR2 := Lib.hid hv.rd
    clear hv hb
    dsimp only
    refine hK.out _ _ ((hF.out _ HBL.out).1) (fun _ => ?_)
    clear hK K
    try go_frame
    refine wpAnyH_ready (rs := [11]) (by kernel_rfl) (by simp) (AllReadyH.cons (o := ⟨some 25, .buildSlice 43 4 #[(0, .tmp 17), (1, .tmp 20), (2, .tmp 21), (3, .tmp 24)], _, _, _, none⟩) rfl (fun K hK => ?_) AllReadyH.nil)
    rw [if_pos (by kernel_rfl)]
    go_simp
    refine hK.out _ _ ((hF.out _ (up_alloc HBL.out _)).1) (fun _ => ?_)
    clear hK K
    try go_frame
    refine wpAnyH_ready (rs := [12]) (by kernel_rfl) (by simp) (AllReadyH.cons (o := ⟨some 26, .call { callee := .value (.func 8), args := #[.tmp 14, .tmp 25], argTypes := #[22, 43] }, _, _, _, none⟩) rfl (fun K hK => ?_) AllReadyH.nil)
    rw [if_pos (by kernel_rfl)]
    go_simp
    refine (HS.out _ _ _ _ _ HR1.out HR2.out HQ.out HO.out).mono ?_
    rintro _ ws5 ⟨rfl, hb⟩
    replace HQ := Lib.hid ((HQ.out.below hb).more hb.size)
    replace HO := Lib.hid ((HO.out.below hb).more hb.size)
    replace HR1 := Lib.hid ((HR1.out.below hb).more hb.size)
    replace HR2 := Lib.hid ((HR2.out.below hb).more hb.size)
    replace HBL := Lib.hid (up HBL.out hb)
    clear hb
    dsimp only
    refine hK.out _ _ ((hF.out _ HBL.out).1) (fun _ => ?_)
    clear hK K
    try go_frame
    refine th 13 ?_
    go_frame
    refine wpAnyH_done (by kernel_rfl) ?_ _
    go_wp2_with fail
    go_ret
    exact ⟨rfl, hXb.out.trans (HBL.out.mono hXb.out.size)⟩
theorem pfC_parts {q : Pf} (hq : q.a.Wide) {W : World} {g : Nat} (h1 : PfAt W g q) : W.rangeAt g 0 (adC q.a) ∧ W.cell? ⟨g, 17, none⟩ = some (.int .i64 q.bits) := by
  have l1 := adC_length hq
  refine ⟨rangeAt_block h1 fun j u hu => ?_, ?_⟩
  · have hj := (List.getElem?_eq_some_iff.1 hu).1
    rw [pfC, List.getElem?_append_left (by omega), Nat.zero_add]
    exact hu
  · rw [cell_of_row W g 17 _ _ _ h1]
    have : (pfC q)[17]? = some (.int .i64 q.bits) := by rw [pfC, List.getElem?_append_right (by omega), l1]; rfl
    simpa using this
set_option maxRecDepth 100000 in
set_option maxHeartbeats 1000000 in
theorem haClient_any (seed : Nat) (q : Pf) (n : Nat) (w : World) (hs : seed < 18446744073709551616) (hq : q.a.Wide) (hn : IntKind.u64.wrap q.bits = (n : Int)) :
    Calls Try.prog 13 #[.int .u64 (seed : Int), pfV q] w fun e w' => e = .returned (.int .u64 (haSum seed (pfB q.a n) : Nat)) ∧ Below w.heap.size w w' := by
  obtain ⟨X, hX⟩ : ∃ X, X = w.alloc (.cells (pfC q).toArray 38) := ⟨_, rfl⟩
  have hXb : Hid (Below w.heap.size w X) := Lib.hid (by rw [hX]; exact up_alloc (Below.refl _ _) _)
  have hat : PfAt X w.heap.size q := by rw [hX]; exact heap_alloc_last w _
  have hlt : w.heap.size < X.heap.size := by rw [hX]; simp
  have hF : Hid (∀ W, Below X.heap.size X W → W.rangeAt w.heap.size 0 (adC q.a) ∧ W.cell? ⟨w.heap.size, 17, none⟩ = some (.int .i64 q.bits)) := Lib.hid fun W hW => pfC_parts hq (hat.below hW hlt)
  have i1 := info_ad hq
  have hl1 : q.a.own.length ≤ 16 := by rw [Ad.own_length hq]; split <;> omega
  have HB1 := Lib.hid (adB_any q.a hq)
  have H7 := Lib.hid (putB_any [] n 1 (by simp) (by omega) (by omega))
  have HS := Lib.hid (haTwo_any seed hs q.a.own ([] ++ be 1 n) (pfB q.a n) (by simp [pfB]))
  generalize haSum seed (pfB q.a n) = N at *
  rw [pfV]
  clear hat hlt hq hs hl1
  generalize q.a.own = L1 at *
  generalize hC1 : adC q.a = C1 at *
  generalize q.bits = b at *
  generalize (pfC q).toArray = C at *
  have HBL : Hid (Below X.heap.size X X.drew) := Lib.hid (Below.refl _ _).drew
  clear hC1
  go_enter Try.func13, Try.ntmps13
  go_wp2_with fail
  rw [← hX]
  clear hX
  refine wp_region_held_drew (S := fun w' => w'.rangeAt w.heap.size 0 C1 ∧ w'.cell? ⟨w.heap.size, 17, none⟩ = some (.int .i64 b)) (by kernel_rfl) (hF.out _ HBL.out) (fun hHeld => ?_)
  refine th 0 ?_
  go_frame
  refine th 1 ?_
  go_frame
  refine th 2 (v := .agg C1.toArray) ?_ (hy := fun wy hSw => by exact exec_load (t := 31) (x := .tmp 6) rfl (pv := .pointer (some ⟨w.heap.size, 0, none⟩)) rfl (run_loadAt_mid wy w.heap.size 0 31 C1 _ hSw.1 Try.underlying31 rfl i1))
  go_frame
  refine th 4 ?_
  go_frame
  refine th 5 (v := .int .i64 b) ?_ (hy := fun wy hSw => by (obtain ⟨s1, s2⟩ := hSw; go_simp <;> with_reducible rfl))
  go_frame
  refine th 6 ?_
  go_frame
  refine wpAnyH_ready (rs := [3]) (by kernel_rfl) (by simp) (AllReadyH.cons (o := ⟨some 8, .call { callee := .value (.func 18), args := #[.tmp 7], argTypes := #[31] }, _, _, _, none⟩) rfl (fun K hK => ?_) AllReadyH.nil)
  rw [if_pos (by kernel_rfl)]
  go_simp
  refine (HB1.out _).mono ?_
  rintro _ wr1 ⟨AHR1, nHR1, cHR1, rfl, hv, hb⟩
  replace HBL := Lib.hid (up HBL.out hb)
  have HR1 := Lib.hid hv.rd
  clear hv hb
  dsimp only
  refine hK.out _ _ (hF.out _ HBL.out) (fun _ => ?_)
  clear hK K
  try go_frame
  refine wpAnyH_ready (rs := [7]) (by kernel_rfl) (by simp) (AllReadyH.cons (o := ⟨some 12, .call { callee := .value (.func 17), args := #[.const (.slice none 0 0), .tmp 11, .const (.int .i64 1)], argTypes := #[23, 22, 3] }, _, _, _, none⟩) rfl (fun K hK => ?_) AllReadyH.nil)
  rw [if_pos (by kernel_rfl)]
  go_simp
  refine (H7.out _ _ (Rd.nil _ _)).mono ?_
  rintro _ wr2 ⟨AHQ, nHQ, cHQ, rfl, hv, hb⟩
  replace HR1 := Lib.hid ((HR1.out.below hb).more hb.size)
  replace HBL := Lib.hid (up HBL.out hb)
  have HQ := Lib.hid hv.rd
  clear hv hb
  dsimp only
  refine hK.out _ _ (hF.out _ HBL.out) (fun _ => ?_)
  clear hK K
  try go_frame
  refine wpAnyH_ready (rs := [8]) (by kernel_rfl) (by simp) (AllReadyH.cons (o := ⟨some 13, .buildSlice 43 2 #[(0, .tmp 8), (1, .tmp 12)], _, _, _, none⟩) rfl (fun K hK => ?_) AllReadyH.nil)
  rw [if_pos (by kernel_rfl)]
  go_simp
  refine hK.out _ _ (hF.out _ (up_alloc HBL.out _)) (fun _ => ?_)
  clear hK K
  try go_frame
  refine wpAnyH_ready (rs := [9]) (by kernel_rfl) (by simp) (AllReadyH.cons (o := ⟨some 14, .call { callee := .value (.func 8), args := #[.tmp 5, .tmp 13], argTypes := #[22, 43] }, _, _, _, none⟩) rfl (fun K hK => ?_) AllReadyH.nil)
  rw [if_pos (by kernel_rfl)]
  go_simp
  refine (HS.out _ _ _ HR1.out HQ.out).mono ?_
  rintro _ wr4 ⟨rfl, hb⟩
  replace HR1 := Lib.hid ((HR1.out.below hb).more hb.size)
  replace HQ := Lib.hid ((HQ.out.below hb).more hb.size)
  replace HBL := Lib.hid (up HBL.out hb)
  clear hb
  dsimp only
  refine hK.out _ _ (hF.out _ HBL.out) (fun _ => ?_)
  clear hK K
  try go_frame
  refine th 10 ?_
  go_frame
  refine wpAnyH_done (by kernel_rfl) ?_ _
  go_wp2_with fail
  go_ret
  exact ⟨rfl, hXb.out.trans (HBL.out.mono hXb.out.size)⟩
end Go.Proofs.Ytcandokefhbneaa
