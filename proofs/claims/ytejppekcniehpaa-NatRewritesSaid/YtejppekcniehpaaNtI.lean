/-
  The document's Rewrite: its ways with a segment's sum; a contract of it all.
-/
import Derived.Test.YtejppekcniehpaaNtH
namespace Go.Proofs.Ytejppekcniehpaa
open Go.RowKit
set_option maxRecDepth 100000 in
set_option maxHeartbeats 2000000 in
theorem rrewrite_f {A : Option Addr} {c : Nat} {l : List UInt8} {w : World} (hr : Rd w w.heap.size (.slice A l.length c) (cellsB l)) (hl : l.length ≤ 100000) {which : Nat} (hw : which = 0 ∨ which = 1) {q : Int} (hq : q = (which : Int)) {to : Ad} (tw : to.Wide) {port : Nat} (hport : port < 65536) (hE0 : ntErr l to port = 0) (h6 : (pkRead l).head.six = false) :
    Calls Try.prog 7 #[.slice A l.length c, .int .i64 q, .agg (adC to).toArray, .int .u16 (port : Int)] w fun e w' => ∃ A' n' c', e = .returned (.tuple #[.slice A' n' c', .int .i64 ((ntErr l to port : Nat) : Int)]) ∧ Rd w' w'.heap.size (.slice A' n' c') (cellsB (ntRes l which to port)) ∧ Below w.heap.size w w' := by
  have hz : ∀ w, (zeroValue 39).run Try.prog w = .ok (.agg (pkC Pk.none).toArray) w := zero_pk
  obtain ⟨X, hX⟩ : ∃ X, X = w.alloc (.cells (adC to).toArray 25) := ⟨_, rfl⟩
  have hXs : X.heap.size = w.heap.size + 1 := by rw [hX]; simp
  have hbX : Below w.heap.size w X := by rw [hX]; exact up_alloc (Below.refl _ _) _
  have hb6 : X.heap[w.heap.size]? = some (.cells (adC to).toArray 25 (0, 0)) := by rw [hX]; exact heap_alloc_last w _
  have hrX : Rd X X.heap.size (.slice A l.length c) (cellsB l) := (hr.below hbX).more hbX.size
  have hPw := pkG_wide l
  have hi := info_adA tw
  have hi2 := info_ad tw
  have hpar := Lib.hid (rpkParse_any hrX)
  have hst10 : Hid (∀ W, Below X.heap.size X W → ∃ W', (Instr.storeAt 39 (.pointer (some ⟨W.heap.size, 0, none⟩)) (.agg (pkC (pkRead l)).toArray)).run Try.prog (W.alloc (.cells (pkC Pk.none).toArray 39)) = .ok () W' ∧ PkAt W' W.heap.size (pkRead l) ∧ Below X.heap.size X W' ∧ X.heap.size ≤ W.heap.size ∧ W.heap.size < W'.heap.size) := Lib.hid fun W hW => by
    obtain ⟨W', h1, h2, h3, h4, _⟩ := store_pk (w := W.alloc (.cells (pkC Pk.none).toArray 39)) (g := W.heap.size) (a := Pk.none) (b := pkRead l) (heap_alloc_last W _) Pk.none_wide hPw
    exact ⟨W', h1, h2, grown_below (up_alloc hW _) h3 hW.size, hW.size, by rw [h4]; simp⟩
  have hrow6 : Hid (∀ W, Below X.heap.size X W → W.heap[w.heap.size]? = some (.cells (adC to).toArray 25 (0, 0)) ∧ W.cell? ⟨w.heap.size, 0, none⟩ = some (.bool to.six)) := Lib.hid fun W hW => by
    have h1 := (hW.block _ (by omega)).trans hb6
    exact ⟨h1, adC_six h1⟩
  have hgood : Hid (∀ W, Calls Try.prog 12 #[.agg (adC to).toArray] W fun e w' => e = .returned (.bool to.good) ∧ Below W.heap.size W w') := Lib.hid fun W => rfGood_any to W tw
  have hup : Hid (∀ W, Below X.heap.size X W → Below w.heap.size w W) := Lib.hid fun W hW => up hbX hW
  have hsix : Hid (∀ {W : World} {g : Nat}, PkAt W g (pkRead l) → W.cell? ⟨g, 0, none⟩ = some (.bool (pkRead l).head.six)) := Lib.hid fun h => (rpk_looks hPw h).2.2
  obtain ⟨hE, g1, g2, g3⟩ := ntErr_zero hE0
  have hM := ntMay hE hw tw g2
  have hRes : ntRes l which to port = ntOut l (pkRead l) (ntPos l) (ntK l) which to port := by unfold ntRes; rw [if_pos hE0]
  rw [hE0, hRes]
  rw [hE] at hpar
  obtain ⟨ha, _⟩ := hM.addr
  have hlow := hM.low.1
  have ho : to.own.length = 4 := by rw [hM.own, h6]; rfl
  obtain ⟨hs1, hs2, hs3, hs4⟩ := hM.sum
  have hat := hM.at_
  have hwhich := hM.which_
  have g26 : to.six = false := by rw [g2, h6]
  obtain ⟨at_, hatd⟩ : ∃ a, a = ntAt (pkRead l).head.six which := ⟨_, rfl⟩
  have hatv : at_ = 12 + 4 * which := by rw [hatd, h6]; rfl
  obtain ⟨pos, hpos⟩ : ∃ pos, pos = ntPos l := ⟨_, rfl⟩
  obtain ⟨k, hk⟩ : ∃ k, k = ntK l := ⟨_, rfl⟩
  rw [← hpos] at hlow hs1 hs2 hs4 hat ha
  rw [← hk] at hs1 hs2 hs3 hs4
  rw [← hatd] at ha
  obtain ⟨a1, ha1⟩ : ∃ a, a = 4 * which := ⟨_, rfl⟩
  obtain ⟨k1, hk1⟩ : ∃ a, a = 2 * which := ⟨_, rfl⟩
  obtain ⟨k2, hk2⟩ : ∃ a, a = pos + 2 * which := ⟨_, rfl⟩
  obtain ⟨l1, hl1⟩ : ∃ l1, l1 = layB l at_ to.own := ⟨_, rfl⟩
  have ll1 : l1.length = l.length := by rw [hl1]; exact layB_length (by omega)
  obtain ⟨l2, hl2⟩ : ∃ l2, l2 = layB l1 k2 (be 2 port) := ⟨_, rfl⟩
  have ll2 : l2.length = l.length := by rw [hl2, layB_length (by rw [be_length, ll1]; omega), ll1]
  obtain ⟨l3, hl3⟩ : ∃ l3, l3 = ntC l2 (pkRead l).head.six pos := ⟨_, rfl⟩
  have ll3 : l3.length = l.length := by rw [hl3, ntC_length (by omega), ll2]
  have hO : ntOut l (pkRead l) (ntPos l) (ntK l) which to port = ntD l3 (ntHd (pkRead l).head which to) pos k (pkRead l).sg.zero := by unfold ntOut ntB; rw [← hpos, ← hk, ← hatd, ← hk2, ← hl1, ← hl2, ← hl3]
  rw [hO]
  have hBy : Hid (∀ W, Calls Try.prog 14 #[.agg (adC to).toArray] W fun e w' => ∃ A c', e = .returned (.slice A 4 c') ∧ Rd w' w'.heap.size (.slice A 4 c') (cellsB to.own) ∧ Below W.heap.size W w') := Lib.hid fun W => by
    refine (rfBytes_any to W tw).mono ?_
    rintro e w' ⟨v, rfl, hv, hb⟩
    obtain ⟨A, c', rfl, _, _, hr'⟩ := hv.rd.bytes
    rw [ho] at hr'
    exact ⟨A, c', by rw [ho], hr', hb⟩
  have hL1 : Hid (∀ W A5 c5, Below X.heap.size X W → Rd W W.heap.size (.slice A5 4 c5) (cellsB to.own) → Calls Try.prog 13 #[.slice A l.length c, .int .i64 (at_ : Int), .slice A5 4 c5] W fun e w' => ∃ A' c', e = .returned (.slice A' l.length c') ∧ Rd w' w'.heap.size (.slice A' l.length c') (cellsB l1) ∧ Below W.heap.size W w') := Lib.hid fun W A5 c5 hW h5 => by
    rw [← ho] at h5 ⊢
    rw [hl1]
    exact rlay_any ((hrX.below hW).more hW.size) h5 rfl (by omega) hl
  have hTwo : Hid (∀ W, Calls Try.prog 15 #[.int .u16 (port : Int)] W fun e w' => ∃ A c, e = .returned (.slice A 2 c) ∧ Rd w' w'.heap.size (.slice A 2 c) (cellsB (be 2 port)) ∧ Below W.heap.size W w') := Lib.hid fun W => rtwo_any port hport W
  have hL2 : Hid (∀ W A8 c8 A9 c9, Rd W W.heap.size (.slice A8 l.length c8) (cellsB l1) → Rd W W.heap.size (.slice A9 2 c9) (cellsB (be 2 port)) → Calls Try.prog 13 #[.slice A8 l.length c8, .int .i64 (k2 : Int), .slice A9 2 c9] W fun e w' => ∃ A' c', e = .returned (.slice A' l.length c') ∧ Rd w' w'.heap.size (.slice A' l.length c') (cellsB l2) ∧ Below W.heap.size W w') := Lib.hid fun W A8 c8 A9 c9 h8 h9 => by
    rw [← ll1] at h8 ⊢
    rw [hl2]
    have := rlay_any (x := be 2 port) h8 (by rw [be_length]; exact h9) (k := k2) rfl (by rw [be_length, ll1]; omega) (by omega)
    rw [be_length] at this
    exact this
  have m1 : IntKind.i64.wrap (q * 4) = (a1 : Int) := by rw [IntWalk.i64_in _ (by omega)]; omega
  have m2 : IntKind.i64.wrap (12 + (a1 : Int)) = (at_ : Int) := by rw [IntWalk.i64_in _ (by omega)]; omega
  have m3 : IntKind.i64.wrap (2 * q) = (k1 : Int) := by rw [IntWalk.i64_in _ (by omega)]; omega
  have m4 : IntKind.i64.wrap ((pos : Int) + (k1 : Int)) = (k2 : Int) := by rw [IntWalk.i64_in _ (by omega)]; omega
  have hlit : Hid (∀ W : World, Rd (W.alloc (.cells #[.int .u8 0, .int .u8 0] 5)) (W.heap.size + 1) (.slice (some ⟨W.heap.size, 0, none⟩) 2 2) (cellsB (be 2 0))) := Lib.hid fun W => rd_lit W 5 (be 2 0) (by rw [be_length]; omega)
  obtain ⟨l2z, hl2z⟩ : ∃ x, x = layB l2 10 (be 2 0) := ⟨_, rfl⟩
  have ll2z : l2z.length = l.length := by rw [hl2z, layB_length (by rw [be_length]; omega), ll2]
  obtain ⟨s1, hs1d⟩ : ∃ s, s = sumOf (l2z.take pos) := ⟨_, rfl⟩
  have hs1l : s1 < 65536 := by rw [hs1d]; have := sumOf_le (l2z.take pos); omega
  have hl3d : l3 = layB l2z 10 (be 2 s1) := by rw [hl3, h6]; unfold ntC; rw [if_neg (by decide), ← hl2z, ← hs1d]
  have hZ1 : Hid (∀ W A8 c8, Rd W W.heap.size (.slice A8 l.length c8) (cellsB l2) → Calls Try.prog 13 #[.slice A8 l.length c8, .int .i64 10, .slice (some ⟨W.heap.size, 0, none⟩) 2 2] (W.alloc (.cells #[.int .u8 0, .int .u8 0] 5)) fun e w' => ∃ A' c', e = .returned (.slice A' l.length c') ∧ (Rd w' w'.heap.size (.slice A' l.length c') (cellsB l2z) ∧ Below W.heap.size W w') ∧ (∀ W2 : World, (Instr.sliceAt 22 (.slice A' l.length c') none (some (.int .i64 (pos : Int))) none).run Try.prog W2 = .ok (.slice A' pos c') W2)) := Lib.hid fun W A8 c8 h8 => by
    have h2 := hlit.out W
    rw [← ll2] at h8 ⊢
    rw [hl2z]
    have hb := up_alloc (Below.refl W.heap.size W) (.cells #[.int .u8 0, .int .u8 0] 5)
    have hsz : (W.alloc (.cells #[.int .u8 0, .int .u8 0] 5)).heap.size = W.heap.size + 1 := by simp
    have := rlay_any (x := be 2 0) (k := 10) (kk := 10) ((h8.below hb).more (by rw [hsz]; omega)) (by rw [be_length, hsz]; exact h2) rfl (by rw [be_length]; omega) (by omega)
    rw [be_length] at this
    refine this.mono ?_
    rintro e w' ⟨A', c', rfl, r1, r2⟩
    refine ⟨A', c', rfl, ⟨r1, up hb r2⟩, ?_⟩
    obtain ⟨A1, c1, e1, hc1, _⟩ := r1.bytes
    injection e1 with e1 e2 e3
    have hlz := layB_length (b := l2) (k := 10) (x := be 2 0) (by rw [be_length]; omega)
    exact cut_h (P := Try.prog) (t := 22) Try.underlying22 (i := _) (e := 5) rfl rfl A' l2.length c' pos (by omega) (pos : Int) rfl
  have hSum1 : Hid (∀ W A8 c8, Rd W W.heap.size (.slice A8 l.length c8) (cellsB l2z) → Calls Try.prog 16 #[.slice A8 pos c8] W fun e w' => e = .returned (.int .u16 (s1 : Int)) ∧ W = w') := Lib.hid fun W A8 c8 h8 => by
    have h2 := h8.upto (hi := pos) (by omega)
    rw [cellsB_take] at h2
    rw [hs1d]
    exact rinSum_any (by rw [List.length_take]; omega) (by omega) h2
  have hTwo1 : Hid (∀ W, Calls Try.prog 15 #[.int .u16 (s1 : Int)] W fun e w' => ∃ A c, e = .returned (.slice A 2 c) ∧ Rd w' w'.heap.size (.slice A 2 c) (cellsB (be 2 s1)) ∧ Below W.heap.size W w') := Lib.hid fun W => rtwo_any s1 hs1l W
  have hL3 : Hid (∀ W A8 c8 A9 c9, Rd W W.heap.size (.slice A8 l.length c8) (cellsB l2z) → Rd W W.heap.size (.slice A9 2 c9) (cellsB (be 2 s1)) → Calls Try.prog 13 #[.slice A8 l.length c8, .int .i64 10, .slice A9 2 c9] W fun e w' => ∃ A' c', e = .returned (.slice A' l.length c') ∧ Rd w' w'.heap.size (.slice A' l.length c') (cellsB l3) ∧ Below W.heap.size W w') := Lib.hid fun W A8 c8 A9 c9 h8 h9 => by
    rw [← ll2z] at h8 ⊢
    rw [hl3d]
    have := rlay_any (x := be 2 s1) h8 (by rw [be_length]; exact h9) (k := 10) (kk := 10) rfl (by rw [be_length, ll2z]; omega) (by omega)
    rw [be_length] at this
    exact this
  have hPhw := hPw.1
  have hHw := ntHd_wide hPhw which tw
  have hpr : (ntHd (pkRead l).head which to).proto = (pkRead l).head.proto ∧ (ntHd (pkRead l).head which to).pos = (pkRead l).head.pos := ⟨(ntHd_proto _ _ _).1, (ntHd_proto _ _ _).2.1⟩
  obtain ⟨l4, hl4⟩ : ∃ x, x = layB l3 k (be 2 0) := ⟨_, rfl⟩
  have ll4 : l4.length = l.length := by rw [hl4, layB_length (by rw [be_length]; omega), ll3]
  obtain ⟨d, hd⟩ : ∃ d, d = l4.drop pos := ⟨_, rfl⟩
  have ld : d.length = l.length - pos := by rw [hd, List.length_drop, ll4]
  obtain ⟨h', hh'⟩ : ∃ h', h' = ntHd (pkRead l).head which to := ⟨_, rfl⟩
  rw [← hh'] at hHw hpr
  obtain ⟨P, hP⟩ : ∃ P, P = sgPseudo h' d.length := ⟨_, rfl⟩
  have hPl := (sgPseudo_length hHw d.length).2.1
  rw [← hP] at hPl
  obtain ⟨s, hs⟩ : ∃ s, s = sumOf (P ++ d) := ⟨_, rfl⟩
  have hS : ntS h' d = if s = 0 ∧ (pkRead l).head.proto = 17 then 65535 else s := by unfold ntS; rw [← hP, ← hs, hpr.1]
  have hn16 : ntS h' d < 65536 := by have := ntS_le h' d; omega
  have hfin : ntD l3 h' pos k false = layB l4 k (be 2 (ntS h' d)) := by unfold ntD; rw [if_neg (by decide), ← hl4, ← hd]
  have hlo1 : Hid ((pkRead l).sg.zero = true → l3 = ntD l3 h' pos k (pkRead l).sg.zero) := Lib.hid fun e => by rw [e]; rfl
  have hlo2 : Hid ((pkRead l).sg.zero = false → layB l4 k (be 2 (ntS h' d)) = ntD l3 h' pos k (pkRead l).sg.zero) := Lib.hid fun e => by rw [e, hfin]
  rw [← hh']
  obtain ⟨i, hi8, hz0, hz1, hz2⟩ := info_parts info_u8
  have hzh : ∀ w, (zeroValue 33).run Try.prog w = .ok (.agg (hdC Hd.zero).toArray) w := zero_hd
  have hinfo := info_hd hPhw
  have hinfo2 := info_hd hHw
  have hst15 : Hid (∀ W g, W.heap[g]? = some (.cells (hdC Hd.zero).toArray 33 (0, 0)) → ∃ W', (Instr.storeAt 33 (.pointer (some ⟨g, 0, none⟩)) (.agg (hdC (pkRead l).head).toArray)).run Try.prog W = .ok () W' ∧ HdAt W' g (pkRead l).head ∧ W.grownBy W' (some g)) := Lib.hid fun W g h => by
    obtain ⟨W', r1, r2, r3, _⟩ := store_hd (w := W) (g := g) (a := Hd.zero) (b := (pkRead l).head) h Hd.zero_wide hPhw
    exact ⟨W', r1, r2, r3⟩
  have hst16 : Hid (∀ W g, HdAt W g (pkRead l).head → ∃ W', (Instr.storeAt 25 (.pointer (some ⟨g, 3 + 17 * which, none⟩)) (.agg (adC to).toArray)).run Try.prog W = .ok () W' ∧ HdAt W' g h' ∧ W.grownBy W' (some g)) := Lib.hid fun W g h => by rw [hh']; exact h.addr hPhw tw (which := which) hw
  have hlook2 : Hid (∀ W g, HdAt W g h' → (W.heap[g]? = some (.cells (hdC h').toArray 33 (0, 0)) ∧ W.cell? ⟨g, 2, none⟩ = some (.int .i64 (pos : Int))) ∧ W.cell? ⟨g, 1, none⟩ = some (.int .u8 ((pkRead l).head.proto.toNat : Int))) := Lib.hid fun W g h => ⟨⟨h, by rw [hdC_pos h, hpr.2, hat]⟩, by rw [hdC_proto h, hpr.1]⟩
  have hZ4 : Hid (∀ W A8 c8, Rd W W.heap.size (.slice A8 l.length c8) (cellsB l3) → Calls Try.prog 13 #[.slice A8 l.length c8, .int .i64 (k : Int), .slice (some ⟨W.heap.size, 0, none⟩) 2 2] (W.alloc (.cells #[.int .u8 0, .int .u8 0] 5)) fun e w' => ∃ A' c', e = .returned (.slice A' l.length c') ∧ (Rd w' w'.heap.size (.slice A' l.length c') (cellsB l4) ∧ Below W.heap.size W w') ∧ ∃ A9 c9, (∀ W2 : World, (Instr.sliceAt 22 (.slice A' l.length c') (some (.int .i64 (pos : Int))) none none).run Try.prog W2 = .ok (.slice A9 (l.length - pos) c9) W2) ∧ Rd w' w'.heap.size (.slice A9 (l.length - pos) c9) (cellsB d)) := Lib.hid fun W A8 c8 h8 => by
    have h2 := hlit.out W
    rw [← ll3] at h8 ⊢
    have hb := up_alloc (Below.refl W.heap.size W) (.cells #[.int .u8 0, .int .u8 0] 5)
    have hsz : (W.alloc (.cells #[.int .u8 0, .int .u8 0] 5)).heap.size = W.heap.size + 1 := by simp
    have := rlay_any (x := be 2 0) (k := k) (kk := (k : Int)) ((h8.below hb).more (by rw [hsz]; omega)) (by rw [be_length, hsz]; exact h2) rfl (by rw [be_length]; omega) (by omega)
    rw [be_length, ← hl4] at this
    refine this.mono ?_
    rintro e w' ⟨A', c', rfl, r1, r2⟩
    obtain ⟨A9, hA9, hcut⟩ := cut_l (P := Try.prog) (t := 22) Try.underlying22 (i := _) (e := 5) rfl rfl A' l3.length c' pos (by omega) (pos : Int) rfl
    have r3 := r1.cut (lo := pos) (hi := l3.length) (by omega) (Nat.le_refl _)
    rw [← hA9, List.take_of_length_le (by rw [cellsB_length, ll4, ll3]; exact Nat.le_refl _), cellsB_drop, ← hd] at r3
    exact ⟨A', c', rfl, ⟨r1, up hb r2⟩, A9, _, hcut, r3⟩
  have hPs : Hid (∀ W, Calls Try.prog 17 #[.agg (hdC h').toArray, .int .i64 ((l.length - pos : Nat) : Int)] W fun e w' => ∃ v, e = .returned v ∧ Mine w' W.heap.size 5 v (cellsB P) ∧ Below W.heap.size W w') := Lib.hid fun W => by
    rw [hP]
    exact rsPseudo_any h' hHw _ d.length (by rw [ld]; exact IntWalk.u64_in _ (by omega)) (by omega) W
  have hAp : Hid (∀ W B v A9 c9, Mine W B 5 v (cellsB P) → B ≤ W.heap.size → Rd W W.heap.size (.slice A9 (l.length - pos) c9) (cellsB d) → ∃ v2 W2, (Builtin.append_ #[22, 22] 22 #[v, .slice A9 (l.length - pos) c9]).run Try.prog W = .ok v2 W2 ∧ Below B W W2 ∧ ∃ A n c', v2 = .slice A n c' ∧ Calls Try.prog 16 #[.slice A n c'] W2 fun e w' => e = .returned (.int .u16 (s : Int)) ∧ W2 = w') := Lib.hid fun W B v A9 c9 hv hB hr9 => by
    obtain ⟨v2, w2, r2, m2, g2, _⟩ := run_append_rd (P := Try.prog) B 22 22 5 i _ 1 Try.underlying22 hi8 hz0 hz1 hz2 rfl v _ hv W.heap.size _ _ hr9 (cellsB_one _) (by simp [cellsB_length]; omega) (by unfold maxLen; simp [cellsB_length]; omega) hB
    have b2 : Below B W w2 := (Below.refl B W).grown g2 hB fun k hk => (World.ownsRow.lt hv k hk).1
    rw [← cellsB_append] at m2
    obtain ⟨A', c', rfl, _, _, hr'⟩ := m2.rd.bytes
    refine ⟨_, w2, r2, b2, A', _, c', rfl, ?_⟩
    rw [hs]
    exact rinSum_any rfl (by simp; omega) hr'
  have hTwo5 : Hid (∀ W nn, nn = ((ntS h' d : Nat) : Int) → Calls Try.prog 15 #[.int .u16 nn] W fun e w' => ∃ A c, e = .returned (.slice A 2 c) ∧ Rd w' w'.heap.size (.slice A 2 c) (cellsB (be 2 (ntS h' d))) ∧ Below W.heap.size W w') := Lib.hid fun W nn e => by subst e; exact rtwo_any _ hn16 W
  have hL5 : Hid (∀ W A8 c8 A9 c9, Rd W W.heap.size (.slice A8 l.length c8) (cellsB l4) → Rd W W.heap.size (.slice A9 2 c9) (cellsB (be 2 (ntS h' d))) → Calls Try.prog 13 #[.slice A8 l.length c8, .int .i64 (k : Int), .slice A9 2 c9] W fun e w' => ∃ A' c', e = .returned (.slice A' l.length c') ∧ Rd w' w'.heap.size (.slice A' l.length c') (cellsB (layB l4 k (be 2 (ntS h' d)))) ∧ Below W.heap.size W w') := Lib.hid fun W A8 c8 A9 c9 h8 h9 => by
    rw [← ll4] at h8 ⊢
    have := rlay_any (x := be 2 (ntS h' d)) h8 (by rw [be_length]; exact h9) (k := k) (kk := (k : Int)) rfl (by rw [be_length, ll4]; omega) (by omega)
    rw [be_length] at this
    exact this
  have m5 : IntKind.i64.wrap ((pos : Int) + ((k - pos : Nat) : Int)) = (k : Int) := by rw [IntWalk.i64_in _ (by omega)]; omega
  have m6 : IntKind.i64.wrap ((l.length : Int) - (pos : Int)) = ((l.length - pos : Nat) : Int) := by rw [IntWalk.i64_in _ (by omega)]; omega
  have hq17 : ∀ q : UInt8, (((q.toNat : Nat) : Int) == 17) = decide (q = 17) := fun q => by
    by_cases e : q = 17
    · subst e; rfl
    · have : q.toNat ≠ 17 := fun e' => e (UInt8.toNat_inj.1 e')
      rw [decide_eq_false e]; simp; omega
  have k17 := hq17 (pkRead l).head.proto
  have hlook : Hid (∀ W g, PkAt W g (pkRead l) → (W.rangeAt g 0 (hdC (pkRead l).head) ∧ W.cell? ⟨g, 2, none⟩ = some (.int .i64 (pos : Int)) ∧ W.cell? ⟨g, 42, none⟩ = some (.int .i64 ((k - pos : Nat) : Int))) ∧ W.cell? ⟨g, 43, none⟩ = some (.bool (pkRead l).sg.zero)) := Lib.hid fun W g h => by
    have := rpk_looks hPw h
    rw [hat, hs1] at this
    exact ⟨this.1, this.2.1⟩
  have hg0 : (((port : Nat) : Int) == 0) = false := beq_zero g3
  rw [g1] at hgood
  rw [g26] at hrow6
  rw [h6] at hsix
  have hkn : (pos : Int) ≤ (l.length : Int) := by omega
  have HW := Lib.hid (And.intro hw hq)
  clear hRes hM ha hlow ho hs1 hs2 hs3 hs4 hat hwhich ha1 hk1 hk2 g26 hatd hatv hpos hk hl1 ll1 hl2 ll2 ll3 hO hPw hXs hbX hb6 hr hrX hl tw hE g1 g2 g3 hport h6 hE0 hl2z ll2z hs1d hs1l hl3d hl3 hw hq hl4 ll4 hd ld hP hPl hs hn16 hfin hPhw hHw hpr hq17 hi8 hz0 hz1 hz2
  generalize ntD l3 h' pos k (pkRead l).sg.zero = lo at *
  generalize (pkRead l).sg.zero = zr at *
  generalize layB l4 k (be 2 (ntS h' d)) = l5 at *
  generalize ntS h' d = t at *
  generalize (pkRead l).head.proto = pq at *
  generalize hQQ : (pq.toNat : Int) = qq at *
  generalize hCH : hdC (pkRead l).head = CH at *
  generalize hCH2 : hdC h' = CH2 at *
  generalize hdC Hd.zero = ZH at *
  generalize k - pos = kp at *
  generalize l.length - pos = np at *
  generalize hpR : pkRead l = pr at *
  generalize l.length = n1 at *
  unfold pkV at *
  generalize hZZ : pkC Pk.none = Z at *
  generalize hPP : pkC pr = PC at *
  generalize hAA : adC to = AC at *
  subst hX
  go_enter Try.func7, Try.ntmps7
  go_wp2_with (first
    | ((with_reducible refine wpList_alloc_zero (o := ⟨some 10, .alloc 39, _, _, _, _⟩) rfl 39 rfl Z.toArray hz ?_))
    | (go_at_call 8; refine hpar.out.mono ?_; rintro _ w1 ⟨rfl, hb1⟩; obtain ⟨w2, hst2, hat2, hb2, hge2, hlt2⟩ := hst10.out _ hb1; obtain ⟨hr6, c6⟩ := hrow6.out _ hb2; have c10 := hsix.out hat2; have HB2 := Lib.hid hb2; have HA2 := Lib.hid (And.intro hat2 (And.intro hge2 hlt2)); clear hat2 hb2 hge2 hlt2 hb1)
    | ((with_reducible refine wpList_stored (o := ⟨none, .store 39 (.tmp 10) (.tmp 21), _, _, _, none⟩) rfl 39 (.tmp 10) (.tmp 21) rfl (.pointer (some ⟨w1.heap.size, 0, none⟩)) (.agg PC.toArray) ?_ ?_ w2 hst2 ?_); exact rfl; exact rfl)
    | ((with_reducible refine wpList_load_row (o := ⟨some 27, .load 25 (.tmp 6), _, _, _, _⟩) rfl 25 (.tmp 6) rfl w.heap.size ?_ 25 AC.toArray (0, 0) _ hr6 Try.underlying25 rfl hi ?_); exact rfl)
    | (go_at_call 12; refine (hgood.out _).mono ?_; rintro _ w3 ⟨rfl, hb3⟩; replace HB2 := Lib.hid (up HB2.out hb3); obtain ⟨hr6', c6'⟩ := hrow6.out _ HB2.out; have hA3 := HA2.out.1.below hb3 HA2.out.2.2; have c10' := hsix.out hA3; replace HA2 := Lib.hid (And.intro hA3 (And.intro HA2.out.2.1 (Nat.lt_of_lt_of_le HA2.out.2.2 hb3.size))); clear hb3 hA3))
  have hRow : Hid (∀ W, Below w3.heap.size w3 W → PkAt W w1.heap.size pr ∧ W.heap[w.heap.size]? = some (.cells AC.toArray 25 (0, 0)) ∧ W.cell? ⟨w.heap.size, 0, none⟩ = some (.bool false)) := Lib.hid fun W hW => ⟨HA2.out.1.below hW HA2.out.2.2, hrow6.out _ (up HB2.out hW)⟩
  have hBX : Hid (∀ W, Below w3.heap.size w3 W → Below (w.alloc (.cells AC.toArray 25)).heap.size (w.alloc (.cells AC.toArray 25)) W) := Lib.hid fun W hW => up HB2.out hW
  obtain ⟨g10, hg10⟩ : ∃ g, g = w1.heap.size := ⟨_, rfl⟩
  rw [← hg10] at hRow ⊢
  clear hst2 c10 c10' c6 c6' hr6 hr6' hg10 hpar hst10 hsix hgood hg0 HA2
  have HC := Lib.hid (drew_self w3)
  have hS9 : Hid (∀ W, Below w3.heap.size w3 W → W.heap[w.heap.size]? = some (.cells AC.toArray 25 (0, 0)) ∧ W.cell? ⟨g10, 2, none⟩ = some (.int .i64 (pos : Int))) := Lib.hid fun W hW => ⟨(hRow.out W hW).2.1, (hlook.out _ _ (hRow.out W hW).1).1.2.1⟩
  go_wp2_with fail
  refine wp_region_held_drew (S := fun w' => w'.heap[w.heap.size]? = some (.cells AC.toArray 25 (0, 0)) ∧ w'.cell? ⟨g10, 2, none⟩ = some (.int .i64 (pos : Int))) (by kernel_rfl) (hS9.out _ HC.out) (fun hHeld => ?_)
  refine th 0 ?_
  go_frame
  refine th 1 ?_
  go_frame
  refine th 2 ?_
  go_frame
  refine th 3 ?_
  go_frame
  refine th 4 (v := .int .i64 (a1 : Int)) ?_ (hy := fun wy hSw => by (go_simp <;> with_reducible rfl))
  go_frame
  refine th 5 (v := .int .i64 (at_ : Int)) ?_ (hy := fun wy hSw => by (go_simp <;> with_reducible rfl))
  go_frame
  refine th 6 (v := .agg AC.toArray) ?_ (hy := fun wy hSw => by exact exec_load (t := 25) (x := .tmp 6) rfl (pv := .pointer (some ⟨w.heap.size, 0, none⟩)) rfl (run_loadAt_mid wy w.heap.size 0 25 AC _ (row_range hSw.1) Try.underlying25 rfl hi2))
  go_frame
  refine th 9 ?_
  go_frame
  refine th 10 ?_
  go_frame
  refine th 11 (v := .int .i64 (pos : Int)) ?_ (hy := fun wy hSw => by (obtain ⟨s1, s2⟩ := hSw; go_simp <;> with_reducible rfl))
  go_frame
  refine th 12 ?_
  go_frame
  refine th 13 (v := .int .i64 (k1 : Int)) ?_ (hy := fun wy hSw => by (go_simp <;> with_reducible rfl))
  go_frame
  refine th 14 (v := .int .i64 (k2 : Int)) ?_ (hy := fun wy hSw => by (go_simp <;> with_reducible rfl))
  go_frame
  refine th 15 ?_
  go_frame
  refine wpAnyH_ready (rs := [7]) (by kernel_rfl) (by simp) (AllReadyH.cons (o := ⟨some 52, .call { callee := .value (.func 14), args := #[.tmp 51], argTypes := #[25] }, _, _, _, none⟩) rfl (fun K hK => ?_) AllReadyH.nil)
  rw [if_pos (by kernel_rfl)]
  go_simp
  refine (hBy.out _).mono ?_
  rintro _ w4 ⟨A4, c4, rfl, hr4, hb4⟩
  replace HC := Lib.hid (up HC.out hb4)
  have HR4 := Lib.hid hr4
  clear hr4 hb4
  dsimp only
  refine hK.out _ _ (hS9.out _ HC.out) (fun _ => ?_)
  clear hK K
  try go_frame
  refine wpAnyH_ready (rs := [8]) (by kernel_rfl) (by simp) (AllReadyH.cons (o := ⟨some 53, .call { callee := .value (.func 13), args := #[.tmp 45, .tmp 50, .tmp 52], argTypes := #[22, 3, 22] }, _, _, _, none⟩) rfl (fun K hK => ?_) AllReadyH.nil)
  rw [if_pos (by kernel_rfl)]
  go_simp
  refine (hL1.out _ _ _ (hBX.out _ HC.out) HR4.out).mono ?_
  rintro _ w5 ⟨A5, c5, rfl, hr5, hb5⟩
  replace HC := Lib.hid (up HC.out hb5)
  have HR5 := Lib.hid hr5
  clear hr5 hb5 HR4
  dsimp only
  refine hK.out _ _ (hS9.out _ HC.out) (fun _ => ?_)
  clear hK K
  try go_frame
  refine wpAnyH_ready (rs := [16]) (by kernel_rfl) (by simp) (AllReadyH.cons (o := ⟨some 61, .call { callee := .value (.func 15), args := #[.tmp 60], argTypes := #[26] }, _, _, _, none⟩) rfl (fun K hK => ?_) AllReadyH.nil)
  rw [if_pos (by kernel_rfl)]
  go_simp
  refine (hTwo.out _).mono ?_
  rintro _ w6 ⟨A6, c6, rfl, hr6, hb6⟩
  replace HC := Lib.hid (up HC.out hb6)
  replace HR5 := Lib.hid ((HR5.out.below hb6).more hb6.size)
  have HR6 := Lib.hid hr6
  clear hr6 hb6
  dsimp only
  refine hK.out _ _ (hS9.out _ HC.out) (fun _ => ?_)
  clear hK K
  try go_frame
  refine wpAnyH_ready (rs := [17]) (by kernel_rfl) (by simp) (AllReadyH.cons (o := ⟨some 62, .call { callee := .value (.func 13), args := #[.tmp 53, .tmp 59, .tmp 61], argTypes := #[22, 3, 22] }, _, _, _, none⟩) rfl (fun K hK => ?_) AllReadyH.nil)
  rw [if_pos (by kernel_rfl)]
  go_simp
  refine (hL2.out _ _ _ _ _ HR5.out HR6.out).mono ?_
  rintro _ w7 ⟨A7, c7, rfl, hr7, hb7⟩
  replace HC := Lib.hid (up HC.out hb7)
  have HR := Lib.hid hr7
  clear hr7 hb7 HR5 HR6
  dsimp only
  refine hK.out _ _ (hS9.out _ HC.out) (fun _ => ?_)
  clear hK K
  try go_frame
  refine th 18 ?_
  go_frame
  refine wpAnyH_done (by kernel_rfl) ?_ _
  obtain ⟨hA7, hr6, c60⟩ := hRow.out _ HC.out
  have c43 := (hlook.out _ _ hA7).2
  clear hBy hL1 hTwo hL2 m1 m2 m3 m4
  cases zr with
  | true =>
    have HLO := Lib.hid (hlo1.out rfl)
    clear hlo1 hlo2
    go_wp2_with (first
      | (go_at_call 13; first | (refine (hZ1.out _ _ _ HR.out).mono ?_; rintro _ w8 ⟨A8, c8, rfl, ⟨hr8, hb8⟩, kc8⟩; have HR8 := Lib.hid hr8; replace HC := Lib.hid (up HC.out hb8); clear hr8 hb8 HR c43 hr6 c60 hA7 hZ1; have c82 := (hlook.out _ _ (hRow.out _ HC.out).1).1.2.1) | (refine (hL3.out _ _ _ _ _ HR8.out HR9.out).mono ?_; rintro _ w10 ⟨A10, c10, rfl, hr10, hb10⟩; have HR := Lib.hid hr10; replace HC := Lib.hid (up HC.out hb10); clear hr10 hb10 HR8 HR9 hL3 c82; obtain ⟨hA7, hr6, c60⟩ := hRow.out _ HC.out; have c43 := (hlook.out _ _ hA7).2))
      | (go_at_call 16; refine (hSum1.out _ _ _ HR8.out).mono ?_; rintro _ w9 ⟨rfl, rfl⟩; clear hSum1)
      | (go_at_call 15; refine (hTwo1.out _).mono ?_; rintro _ w9 ⟨A9, c9, rfl, hr9, hb9⟩; replace HR8 := Lib.hid ((HR8.out.below hb9).more hb9.size); have HR9 := Lib.hid hr9; replace HC := Lib.hid (up HC.out hb9); clear hr9 hb9 hTwo1))
    go_ret2
    exact ⟨_, _, _, rfl, by rw [← HLO.out]; exact HR.out, hup.out _ (hBX.out _ HC.out)⟩
  | false =>
    have HLO := Lib.hid (hlo2.out rfl)
    clear hlo1 hlo2
    go_wp2_with (first
      | (go_at_call 13; first | (refine (hZ1.out _ _ _ HR.out).mono ?_; rintro _ w8 ⟨A8, c8, rfl, ⟨hr8, hb8⟩, kc8⟩; have HR8 := Lib.hid hr8; replace HC := Lib.hid (up HC.out hb8); clear hr8 hb8 HR c43 hr6 c60 hA7 hZ1; have c82 := (hlook.out _ _ (hRow.out _ HC.out).1).1.2.1) | (refine (hL3.out _ _ _ _ _ HR8.out HR9.out).mono ?_; rintro _ w10 ⟨A10, c10, rfl, hr10, hb10⟩; have HR := Lib.hid hr10; replace HC := Lib.hid (up HC.out hb10); clear hr10 hb10 HR8 HR9 hL3 c82; obtain ⟨hA7, hr6, c60⟩ := hRow.out _ HC.out; have c43 := (hlook.out _ _ hA7).2))
      | (go_at_call 16; refine (hSum1.out _ _ _ HR8.out).mono ?_; rintro _ w9 ⟨rfl, rfl⟩; clear hSum1)
      | (go_at_call 15; refine (hTwo1.out _).mono ?_; rintro _ w9 ⟨A9, c9, rfl, hr9, hb9⟩; replace HR8 := Lib.hid ((HR8.out.below hb9).more hb9.size); have HR9 := Lib.hid hr9; replace HC := Lib.hid (up HC.out hb9); clear hr9 hb9 hTwo1))
    have HC0 := Lib.hid (up HC.out (drew_self _))
    have hS15 : Hid (∀ W, Below w3.heap.size w3 W → W.rangeAt g10 0 CH ∧ W.cell? ⟨g10, 2, none⟩ = some (.int .i64 (pos : Int)) ∧ W.cell? ⟨g10, 42, none⟩ = some (.int .i64 (kp : Int))) := Lib.hid fun W hW => (hlook.out _ _ (hRow.out W hW).1).1
    clear c43 hr6 c60 hA7
    replace HR := Lib.hid (show Rd w10.drew w10.drew.heap.size (.slice A10 n1 c10) (cellsB l3) from (HR.out.below (drew_self _)).more (drew_self _).size)
    replace HC := HC0
    clear HC0
    refine wp_region_held_drew (S := fun w' => w'.rangeAt g10 0 CH ∧ w'.cell? ⟨g10, 2, none⟩ = some (.int .i64 (pos : Int)) ∧ w'.cell? ⟨g10, 42, none⟩ = some (.int .i64 (kp : Int))) (by kernel_rfl) (hS15.out _ HC.out) (fun hHeld => ?_)
    refine th 0 ?_
    go_frame
    refine th 1 (v := .agg CH.toArray) ?_ (hy := fun wy hSw => by exact exec_load (t := 33) (x := .tmp 82) rfl (pv := .pointer (some ⟨g10, 0, none⟩)) rfl (run_loadAt_mid wy g10 0 33 CH _ hSw.1 Try.underlying33 rfl hinfo))
    go_frame
    refine th 2 ?_
    go_frame
    refine th 3 ?_
    go_frame
    refine th 4 (v := .int .i64 (pos : Int)) ?_ (hy := fun wy hSw => by (obtain ⟨s1, s2, s3⟩ := hSw; go_simp <;> with_reducible rfl))
    go_frame
    refine th 5 ?_
    go_frame
    refine th 6 ?_
    go_frame
    refine th 7 (v := .int .i64 (kp : Int)) ?_ (hy := fun wy hSw => by (obtain ⟨s1, s2, s3⟩ := hSw; go_simp <;> with_reducible rfl))
    go_frame
    refine th 8 (v := .int .i64 (k : Int)) ?_ (hy := fun wy hSw => by (go_simp <;> with_reducible rfl))
    go_frame
    refine wpAnyH_ready (rs := [9]) (by kernel_rfl) (by simp) (AllReadyH.cons (o := ⟨some 15, .alloc 33, _, _, _, none⟩) rfl (fun K hK => ?_) AllReadyH.nil)
    rw [if_pos (by kernel_rfl)]
    refine wp_run (.pointer (some ⟨w10.drew.heap.size, 0, none⟩)) _ (exec_allocP rfl hzh _) ?_
    have hb := up_alloc HC.out (.cells ZH.toArray 33)
    have ha := heap_alloc_last w10.drew (.cells ZH.toArray 33)
    obtain ⟨g15, hg15⟩ : ∃ g, g = w10.drew.heap.size := ⟨_, rfl⟩
    have hle : w3.heap.size ≤ w10.drew.heap.size := HC.out.size
    have hB11 : Hid (Rd (w10.drew.alloc (.cells ZH.toArray 33)) g15 (.slice A10 n1 c10) (cellsB l3)) := Lib.hid (by rw [hg15]; exact HR.out.alloc (Nat.le_refl _) _)
    rw [← hg15] at ha hle ⊢
    generalize w10.drew.alloc (.cells ZH.toArray 33) = wa at hb ha hB11 ⊢
    replace HC := Lib.hid hb
    have HA15 := Lib.hid (And.intro ha hle)
    clear hb ha hle hg15 HR
    refine hK.out _ _ (hS15.out _ HC.out) (fun _ => ?_)
    clear hK K
    try go_frame
    refine wpAnyH_ready (rs := [10]) (by kernel_rfl) (by simp) (AllReadyH.cons (o := ⟨none, .store 33 (.tmp 15) (.tmp 83), _, _, _, none⟩) rfl (fun K hK => ?_) AllReadyH.nil)
    rw [if_pos (by kernel_rfl)]
    obtain ⟨w11, hst11, hat11, hgr11⟩ := hst15.out _ g15 HA15.out.1
    refine wp_skip w11 (exec_store rfl (vx := .pointer (some ⟨g15, 0, none⟩)) rfl (vy := .agg CH.toArray) rfl hst11) ?_
    have hr11 := hB11.out.grown hgr11 (Nat.le_of_lt (Array.getElem?_eq_some_iff.1 HA15.out.1).1) (fun g e => by cases e; exact Nat.le_refl _)
    have HR : Hid (Rd w11 g15 (.slice A10 n1 c10) (cellsB l3)) := Lib.hid hr11
    replace HC := Lib.hid (grown_below HC.out hgr11 HA15.out.2)
    have H15 := Lib.hid hat11
    have HLE := Lib.hid HA15.out.2
    clear hst11 hr11 hgr11 hat11 HA15 hB11
    refine hK.out _ _ (hS15.out _ HC.out) (fun _ => ?_)
    clear hK K
    try go_frame
    refine th 11 ?_
    go_frame
    refine wpAnyH_done (by kernel_rfl) ?_ _
    obtain ⟨w12, hst12, hat12, hgr12⟩ := hst16.out _ _ H15.out
    have hr6 := (hRow.out _ HC.out).2.1
    replace HC := Lib.hid (grown_below HC.out hgr12 HLE.out)
    replace HR := Lib.hid ((HR.out.grown hgr12 (Nat.le_of_lt H15.out.lt) (fun g e => by cases e; exact Nat.le_refl _)).more (Nat.le_trans (Nat.le_of_lt H15.out.lt) hgr12.size))
    replace H15 := Lib.hid hat12
    clear hgr12 hat12 hS15 hst15 hst16 HLE
    rcases HW.out.1 with e | e
    · subst e
      have e11 : (q == 1) = false := by rw [HW.out.2]; rfl
      clear HW
      go_wp2_with (first
        | ((with_reducible refine wpList_load_row (o := ⟨some 95, .load 25 (.tmp 6), _, _, _, _⟩) rfl 25 (.tmp 6) rfl w.heap.size ?_ 25 AC.toArray (0, 0) _ hr6 Try.underlying25 rfl hi ?_); exact rfl)
        | ((with_reducible refine wpList_stored (o := ⟨none, .store 25 (.tmp 96) (.tmp 95), _, _, _, none⟩) rfl 25 (.tmp 96) (.tmp 95) rfl (.pointer (some ⟨g15, 3, none⟩)) (.agg AC.toArray) ?_ ?_ w12 hst12 ?_); exact rfl; exact rfl)
        | (go_at_call 13; refine (hZ4.out _ _ _ HR.out).mono ?_; rintro _ w13 ⟨A13, c13, rfl, ⟨hr13, hb13⟩, A14, c14, kc13, hr14⟩; replace H15 := Lib.hid (H15.out.below hb13 H15.out.lt); replace HC := Lib.hid (up HC.out hb13); have HR13 := Lib.hid hr13; have HR14 := Lib.hid hr14; clear hr13 hr14 hb13 HR hr6 hst12 hZ4))
      have hS20 : Hid (∀ W, Below w13.heap.size w13 W → (W.heap[g15]? = some (.cells CH2.toArray 33 (0, 0)) ∧ W.cell? ⟨g15, 2, none⟩ = some (.int .i64 (pos : Int))) ∧ W.cell? ⟨g15, 1, none⟩ = some (.int .u8 qq)) := Lib.hid fun W hW => hlook2.out _ _ (H15.out.below hW H15.out.lt)
      have HD := Lib.hid (drew_self w13)
      refine wp_region_held_drew (S := fun w' => w'.heap[g15]? = some (.cells CH2.toArray 33 (0, 0)) ∧ w'.cell? ⟨g15, 2, none⟩ = some (.int .i64 (pos : Int))) (by kernel_rfl) (hS20.out _ HD.out).1 (fun hHeld => ?_)
      refine th 0 (v := .agg CH2.toArray) ?_ (hy := fun wy hSw => by exact exec_load (t := 33) (x := .tmp 15) rfl (pv := .pointer (some ⟨g15, 0, none⟩)) rfl (run_loadAt_mid wy g15 0 33 CH2 _ (row_range hSw.1) Try.underlying33 rfl hinfo2))
      go_frame
      refine th 1 ?_
      go_frame
      refine th 2 ?_
      go_frame
      refine th 3 ?_
      go_frame
      refine th 4 (v := .int .i64 (pos : Int)) ?_ (hy := fun wy hSw => by (obtain ⟨s1, s2⟩ := hSw; go_simp <;> with_reducible rfl))
      go_frame
      refine th 5 (v := .int .i64 (np : Int)) ?_ (hy := fun wy hSw => by (go_simp <;> with_reducible rfl))
      go_frame
      refine th 7 ?_
      go_frame
      refine th 8 ?_
      go_frame
      refine th 9 (v := .int .i64 (pos : Int)) ?_ (hy := fun wy hSw => by (obtain ⟨s1, s2⟩ := hSw; go_simp <;> with_reducible rfl))
      go_frame
      refine th 10 (v := .slice A14 np c14) ?_ (hy := fun wy hSw => by (go_simp <;> with_reducible rfl))
      go_frame
      refine wpAnyH_ready (rs := [6]) (by kernel_rfl) (by simp) (AllReadyH.cons (o := ⟨some 107, .call { callee := .value (.func 17), args := #[.tmp 101, .tmp 106], argTypes := #[33, 3] }, _, _, _, none⟩) rfl (fun K hK => ?_) AllReadyH.nil)
      rw [if_pos (by kernel_rfl)]
      go_simp
      refine (hPs.out _).mono ?_
      rintro _ w14 ⟨v14, rfl, hv14, hb14⟩
      replace HD := Lib.hid (up HD.out hb14)
      have HV := Lib.hid hv14
      clear hv14 hb14
      dsimp only
      refine hK.out _ _ ((hS20.out _ HD.out).1) (fun _ => ?_)
      clear hK K
      try go_frame
      refine wpAnyH_ready (rs := [11]) (by kernel_rfl) (by simp) (AllReadyH.cons (o := ⟨some 112, .call { callee := .builtin .append, args := #[.tmp 107, .tmp 111], argTypes := #[22, 22] }, 22, _, _, none⟩) rfl (fun K hK => ?_) AllReadyH.nil)
      rw [if_pos (by kernel_rfl)]
      obtain ⟨v15, w15, hrun15, hb15, A16, n16, c16, rfl, hsum⟩ := hAp.out _ _ _ _ _ HV.out HD.out.size ((HR14.out.below HD.out).more HD.out.size)
      refine wp_run (.slice A16 n16 c16) w15 (exec_append rfl (u := v14) rfl (v := .slice A14 np c14) rfl hrun15) ?_
      replace HD := Lib.hid (HD.out.trans hb15)
      have HS := Lib.hid hsum
      clear hrun15 hb15 hsum HV HR14
      refine hK.out _ _ ((hS20.out _ HD.out).1) (fun _ => ?_)
      clear hK K
      try go_frame
      refine wpAnyH_ready (rs := [12]) (by kernel_rfl) (by simp) (AllReadyH.cons (o := ⟨some 113, .call { callee := .value (.func 16), args := #[.tmp 112], argTypes := #[22] }, _, _, _, none⟩) rfl (fun K hK => ?_) AllReadyH.nil)
      rw [if_pos (by kernel_rfl)]
      go_simp
      refine HS.out.mono ?_
      rintro _ w16 ⟨rfl, rfl⟩
      dsimp only
      refine hK.out _ _ ((hS20.out _ HD.out).1) (fun _ => ?_)
      clear hK K
      try go_frame
      refine th 13 ?_
      go_frame
      refine wpAnyH_done (by kernel_rfl) ?_ _
      have c1 := (hS20.out _ HD.out).2
      have HR15 : Hid (Rd w15 w15.heap.size (.slice A13 n1 c13) (cellsB l4)) := Lib.hid ((HR13.out.below HD.out).more HD.out.size)
      have HE15 : Hid (Below w.heap.size w w15) := Lib.hid (hup.out _ (hBX.out _ (up HC.out HD.out)))
      clear HS HR13 HD hS20
      by_cases hs0 : s = 0
      · have k0 : ((s : Int) == 0) = true := by subst hs0; rfl
        by_cases h17 : pq = 17
        · rw [decide_eq_true h17] at k17
          have HE := Lib.hid (show (65535 : Int) = (t : Int) by rw [hS, if_pos ⟨hs0, h17⟩]; rfl)
          clear hS hs0 h17 hQQ
          go_wp2_with (first
            | (go_at_call 15; refine (hTwo5.out _ _ HE.out).mono ?_; rintro _ w17 ⟨A17, c17, rfl, hr17, hb17⟩; replace HR15 := Lib.hid ((HR15.out.below hb17).more hb17.size); replace HE15 := Lib.hid (up HE15.out hb17); have HR17 := Lib.hid hr17; clear hr17 hb17)
            | (go_at_call 13; refine (hL5.out _ _ _ _ _ HR15.out HR17.out).mono ?_; rintro _ w18 ⟨A18, c18, rfl, hr18, hb18⟩; have HT := Lib.hid (And.intro hr18 (up HE15.out hb18)); clear hr18 hb18))
          go_ret2
          exact ⟨_, _, _, rfl, by rw [← HLO.out]; exact HT.out.1, HT.out.2⟩
        · rw [decide_eq_false h17] at k17
          have HE := Lib.hid (show (s : Int) = (t : Int) by rw [hS, if_neg (fun z => h17 z.2)])
          clear hS hs0 h17 hQQ
          go_wp2_with (first
            | (go_at_call 15; refine (hTwo5.out _ _ HE.out).mono ?_; rintro _ w17 ⟨A17, c17, rfl, hr17, hb17⟩; replace HR15 := Lib.hid ((HR15.out.below hb17).more hb17.size); replace HE15 := Lib.hid (up HE15.out hb17); have HR17 := Lib.hid hr17; clear hr17 hb17)
            | (go_at_call 13; refine (hL5.out _ _ _ _ _ HR15.out HR17.out).mono ?_; rintro _ w18 ⟨A18, c18, rfl, hr18, hb18⟩; have HT := Lib.hid (And.intro hr18 (up HE15.out hb18)); clear hr18 hb18))
          go_ret2
          exact ⟨_, _, _, rfl, by rw [← HLO.out]; exact HT.out.1, HT.out.2⟩
      · have k0 := beq_zero hs0
        have HE := Lib.hid (show (s : Int) = (t : Int) by rw [hS, if_neg (fun z => hs0 z.1)])
        clear hS hs0 hQQ k17
        go_wp2_with (first
          | (go_at_call 15; refine (hTwo5.out _ _ HE.out).mono ?_; rintro _ w17 ⟨A17, c17, rfl, hr17, hb17⟩; replace HR15 := Lib.hid ((HR15.out.below hb17).more hb17.size); replace HE15 := Lib.hid (up HE15.out hb17); have HR17 := Lib.hid hr17; clear hr17 hb17)
          | (go_at_call 13; refine (hL5.out _ _ _ _ _ HR15.out HR17.out).mono ?_; rintro _ w18 ⟨A18, c18, rfl, hr18, hb18⟩; have HT := Lib.hid (And.intro hr18 (up HE15.out hb18)); clear hr18 hb18))
        go_ret2
        exact ⟨_, _, _, rfl, by rw [← HLO.out]; exact HT.out.1, HT.out.2⟩
    · subst e
      have e11 : (q == 1) = true := by rw [HW.out.2]; rfl
      clear HW
      go_wp2_with (first
        | ((with_reducible refine wpList_load_row (o := ⟨some 93, .load 25 (.tmp 6), _, _, _, _⟩) rfl 25 (.tmp 6) rfl w.heap.size ?_ 25 AC.toArray (0, 0) _ hr6 Try.underlying25 rfl hi ?_); exact rfl)
        | ((with_reducible refine wpList_stored (o := ⟨none, .store 25 (.tmp 94) (.tmp 93), _, _, _, none⟩) rfl 25 (.tmp 94) (.tmp 93) rfl (.pointer (some ⟨g15, 20, none⟩)) (.agg AC.toArray) ?_ ?_ w12 hst12 ?_); exact rfl; exact rfl)
        | (go_at_call 13; refine (hZ4.out _ _ _ HR.out).mono ?_; rintro _ w13 ⟨A13, c13, rfl, ⟨hr13, hb13⟩, A14, c14, kc13, hr14⟩; replace H15 := Lib.hid (H15.out.below hb13 H15.out.lt); replace HC := Lib.hid (up HC.out hb13); have HR13 := Lib.hid hr13; have HR14 := Lib.hid hr14; clear hr13 hr14 hb13 HR hr6 hst12 hZ4))
      have hS20 : Hid (∀ W, Below w13.heap.size w13 W → (W.heap[g15]? = some (.cells CH2.toArray 33 (0, 0)) ∧ W.cell? ⟨g15, 2, none⟩ = some (.int .i64 (pos : Int))) ∧ W.cell? ⟨g15, 1, none⟩ = some (.int .u8 qq)) := Lib.hid fun W hW => hlook2.out _ _ (H15.out.below hW H15.out.lt)
      have HD := Lib.hid (drew_self w13)
      refine wp_region_held_drew (S := fun w' => w'.heap[g15]? = some (.cells CH2.toArray 33 (0, 0)) ∧ w'.cell? ⟨g15, 2, none⟩ = some (.int .i64 (pos : Int))) (by kernel_rfl) (hS20.out _ HD.out).1 (fun hHeld => ?_)
      refine th 0 (v := .agg CH2.toArray) ?_ (hy := fun wy hSw => by exact exec_load (t := 33) (x := .tmp 15) rfl (pv := .pointer (some ⟨g15, 0, none⟩)) rfl (run_loadAt_mid wy g15 0 33 CH2 _ (row_range hSw.1) Try.underlying33 rfl hinfo2))
      go_frame
      refine th 1 ?_
      go_frame
      refine th 2 ?_
      go_frame
      refine th 3 ?_
      go_frame
      refine th 4 (v := .int .i64 (pos : Int)) ?_ (hy := fun wy hSw => by (obtain ⟨s1, s2⟩ := hSw; go_simp <;> with_reducible rfl))
      go_frame
      refine th 5 (v := .int .i64 (np : Int)) ?_ (hy := fun wy hSw => by (go_simp <;> with_reducible rfl))
      go_frame
      refine th 7 ?_
      go_frame
      refine th 8 ?_
      go_frame
      refine th 9 (v := .int .i64 (pos : Int)) ?_ (hy := fun wy hSw => by (obtain ⟨s1, s2⟩ := hSw; go_simp <;> with_reducible rfl))
      go_frame
      refine th 10 (v := .slice A14 np c14) ?_ (hy := fun wy hSw => by (go_simp <;> with_reducible rfl))
      go_frame
      refine wpAnyH_ready (rs := [6]) (by kernel_rfl) (by simp) (AllReadyH.cons (o := ⟨some 107, .call { callee := .value (.func 17), args := #[.tmp 101, .tmp 106], argTypes := #[33, 3] }, _, _, _, none⟩) rfl (fun K hK => ?_) AllReadyH.nil)
      rw [if_pos (by kernel_rfl)]
      go_simp
      refine (hPs.out _).mono ?_
      rintro _ w14 ⟨v14, rfl, hv14, hb14⟩
      replace HD := Lib.hid (up HD.out hb14)
      have HV := Lib.hid hv14
      clear hv14 hb14
      dsimp only
      refine hK.out _ _ ((hS20.out _ HD.out).1) (fun _ => ?_)
      clear hK K
      try go_frame
      refine wpAnyH_ready (rs := [11]) (by kernel_rfl) (by simp) (AllReadyH.cons (o := ⟨some 112, .call { callee := .builtin .append, args := #[.tmp 107, .tmp 111], argTypes := #[22, 22] }, 22, _, _, none⟩) rfl (fun K hK => ?_) AllReadyH.nil)
      rw [if_pos (by kernel_rfl)]
      obtain ⟨v15, w15, hrun15, hb15, A16, n16, c16, rfl, hsum⟩ := hAp.out _ _ _ _ _ HV.out HD.out.size ((HR14.out.below HD.out).more HD.out.size)
      refine wp_run (.slice A16 n16 c16) w15 (exec_append rfl (u := v14) rfl (v := .slice A14 np c14) rfl hrun15) ?_
      replace HD := Lib.hid (HD.out.trans hb15)
      have HS := Lib.hid hsum
      clear hrun15 hb15 hsum HV HR14
      refine hK.out _ _ ((hS20.out _ HD.out).1) (fun _ => ?_)
      clear hK K
      try go_frame
      refine wpAnyH_ready (rs := [12]) (by kernel_rfl) (by simp) (AllReadyH.cons (o := ⟨some 113, .call { callee := .value (.func 16), args := #[.tmp 112], argTypes := #[22] }, _, _, _, none⟩) rfl (fun K hK => ?_) AllReadyH.nil)
      rw [if_pos (by kernel_rfl)]
      go_simp
      refine HS.out.mono ?_
      rintro _ w16 ⟨rfl, rfl⟩
      dsimp only
      refine hK.out _ _ ((hS20.out _ HD.out).1) (fun _ => ?_)
      clear hK K
      try go_frame
      refine th 13 ?_
      go_frame
      refine wpAnyH_done (by kernel_rfl) ?_ _
      have c1 := (hS20.out _ HD.out).2
      have HR15 : Hid (Rd w15 w15.heap.size (.slice A13 n1 c13) (cellsB l4)) := Lib.hid ((HR13.out.below HD.out).more HD.out.size)
      have HE15 : Hid (Below w.heap.size w w15) := Lib.hid (hup.out _ (hBX.out _ (up HC.out HD.out)))
      clear HS HR13 HD hS20
      by_cases hs0 : s = 0
      · have k0 : ((s : Int) == 0) = true := by subst hs0; rfl
        by_cases h17 : pq = 17
        · rw [decide_eq_true h17] at k17
          have HE := Lib.hid (show (65535 : Int) = (t : Int) by rw [hS, if_pos ⟨hs0, h17⟩]; rfl)
          clear hS hs0 h17 hQQ
          go_wp2_with (first
            | (go_at_call 15; refine (hTwo5.out _ _ HE.out).mono ?_; rintro _ w17 ⟨A17, c17, rfl, hr17, hb17⟩; replace HR15 := Lib.hid ((HR15.out.below hb17).more hb17.size); replace HE15 := Lib.hid (up HE15.out hb17); have HR17 := Lib.hid hr17; clear hr17 hb17)
            | (go_at_call 13; refine (hL5.out _ _ _ _ _ HR15.out HR17.out).mono ?_; rintro _ w18 ⟨A18, c18, rfl, hr18, hb18⟩; have HT := Lib.hid (And.intro hr18 (up HE15.out hb18)); clear hr18 hb18))
          go_ret2
          exact ⟨_, _, _, rfl, by rw [← HLO.out]; exact HT.out.1, HT.out.2⟩
        · rw [decide_eq_false h17] at k17
          have HE := Lib.hid (show (s : Int) = (t : Int) by rw [hS, if_neg (fun z => h17 z.2)])
          clear hS hs0 h17 hQQ
          go_wp2_with (first
            | (go_at_call 15; refine (hTwo5.out _ _ HE.out).mono ?_; rintro _ w17 ⟨A17, c17, rfl, hr17, hb17⟩; replace HR15 := Lib.hid ((HR15.out.below hb17).more hb17.size); replace HE15 := Lib.hid (up HE15.out hb17); have HR17 := Lib.hid hr17; clear hr17 hb17)
            | (go_at_call 13; refine (hL5.out _ _ _ _ _ HR15.out HR17.out).mono ?_; rintro _ w18 ⟨A18, c18, rfl, hr18, hb18⟩; have HT := Lib.hid (And.intro hr18 (up HE15.out hb18)); clear hr18 hb18))
          go_ret2
          exact ⟨_, _, _, rfl, by rw [← HLO.out]; exact HT.out.1, HT.out.2⟩
      · have k0 := beq_zero hs0
        have HE := Lib.hid (show (s : Int) = (t : Int) by rw [hS, if_neg (fun z => hs0 z.1)])
        clear hS hs0 hQQ k17
        go_wp2_with (first
          | (go_at_call 15; refine (hTwo5.out _ _ HE.out).mono ?_; rintro _ w17 ⟨A17, c17, rfl, hr17, hb17⟩; replace HR15 := Lib.hid ((HR15.out.below hb17).more hb17.size); replace HE15 := Lib.hid (up HE15.out hb17); have HR17 := Lib.hid hr17; clear hr17 hb17)
          | (go_at_call 13; refine (hL5.out _ _ _ _ _ HR15.out HR17.out).mono ?_; rintro _ w18 ⟨A18, c18, rfl, hr18, hb18⟩; have HT := Lib.hid (And.intro hr18 (up HE15.out hb18)); clear hr18 hb18))
        go_ret2
        exact ⟨_, _, _, rfl, by rw [← HLO.out]; exact HT.out.1, HT.out.2⟩
theorem rrewrite_any {A : Option Addr} {c : Nat} {l : List UInt8} {w : World} (hr : Rd w w.heap.size (.slice A l.length c) (cellsB l)) (hl : l.length ≤ 100000) {which : Nat} (hw : which = 0 ∨ which = 1) {q : Int} (hq : q = (which : Int)) {to : Ad} (tw : to.Wide) {port : Nat} (hport : port < 65536) :
    Calls Try.prog 7 #[.slice A l.length c, .int .i64 q, .agg (adC to).toArray, .int .u16 (port : Int)] w fun e w' => ∃ A' n' c', e = .returned (.tuple #[.slice A' n' c', .int .i64 ((ntErr l to port : Nat) : Int)]) ∧ Rd w' w'.heap.size (.slice A' n' c') (cellsB (ntRes l which to port)) ∧ Below w.heap.size w w' := by
  by_cases hE : ntErr l to port = 0
  · cases h6 : (pkRead l).head.six with
    | true => exact rrewrite_s hr hl hw hq tw hport hE h6
    | false => exact rrewrite_f hr hl hw hq tw hport hE h6
  · exact rrewrite_no hr hl which q tw hE
end Go.Proofs.Ytejppekcniehpaa
