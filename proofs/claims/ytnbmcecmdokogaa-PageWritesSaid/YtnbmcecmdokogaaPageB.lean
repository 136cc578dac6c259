/-
  page.put and page.bodyOf, by contracts: a field laid over bytes of the call's own; the Body that bytes say.
-/
import Derived.Test.YtnbmcecmdokogaaPage
import Derived.Test.YtnbmcecmdokogaaNumCut
import Derived.Lib.BufferWrite
import Derived.Deep.RegionLaw
namespace Go.Proofs.Ytnbmcecmdokogaa
open Go.RowKit
/-- The whole block of 256 bytes. -/
def Blk (w : World) (g : Nat) (l : List UInt8) : Prop := w.heap[g]? = some (.cells (cellsB l).toArray 5 (0, 0))
theorem info_size1 : (Try.prog.info? 5).map (·.size) = some 1 := by kernel_rfl
theorem splice_cells (l m : List UInt8) (a : Nat) : splice (cellsB l) a (cellsB m) = cellsB (spl l a m) := by
  simp [splice, spl, cellsB]
theorem Blk.rd {w : World} {g : Nat} {l : List UInt8} (h : Blk w g l) (hl : l.length = 256) : Rd w (g + 1) (.slice (some ⟨g, 0, none⟩) 256 256) (cellsB l) := by
  refine ⟨some ⟨g, 0, none⟩, 256, by rw [cellsB_length, hl], by rw [cellsB_length, hl]; exact Nat.le_refl _, by unfold maxLen; omega, (fun h => by cases h), fun _ => ⟨g, 0, rfl, Nat.lt_succ_self _, fun j u hu => ?_⟩⟩
  unfold Blk at h
  unfold World.cell?
  simp only [h, Nat.zero_add]
  simpa using hu
theorem Blk.lt {w : World} {g : Nat} {l : List UInt8} (h : Blk w g l) : g < w.heap.size := by
  unfold Blk at h
  exact (Array.getElem?_eq_some_iff.1 h).1
theorem Blk.kept {w w' : World} {g : Nat} {l : List UInt8} (h : Blk w g l) (hb : Below w.heap.size w w') : Blk w' g l := (hb.block g h.lt).trans h

theorem cell_of_bytes {w : World} {b o : Nat} {q : List UInt8} (hc : ∀ (j : Nat) (h : j < q.length), w.cell? ⟨b, o + j, none⟩ = some (.int .u8 (q[j].toNat : Int))) {j : Nat} {v : Value} (h : (cellsB q)[j]? = some v) :
    w.cell? ((⟨b, o, none⟩ : Addr).add j) = some v := by
  have hj : j < q.length := by have := (List.getElem?_eq_some_iff.1 h).1; rwa [cellsB_length] at this
  rw [Addr.add_lit, hc j hj]
  rw [cellsB_at q j hj] at h
  exact h
/-- num.Put of nothing, behind a draw: where its bytes are, and that a block of before is as it was. -/
theorem put_bytes (g : Nat) (l q : List UInt8) (n s : Nat) (w : World) (hg : Blk w g l) (hq : q = be s n) (h1 : 1 ≤ s) (h2 : s ≤ 8) :
    Calls Try.prog 25 #[.slice none 0 0, .int .u64 n, .int .i64 (s : Int)] w.drew fun e w1 => ∃ b1 o1 c1, e = .returned (.slice (some ⟨b1, o1, none⟩) q.length c1) ∧
      Hid (∀ (j : Nat) (v : Value), (cellsB q)[j]? = some v → w1.cell? ((⟨b1, o1, none⟩ : Addr).add j) = some v) ∧ Hid (Blk w1 g l) ∧ Hid (Below g w w1) := by
  refine (put_yes none 0 [] n s w.drew w.drew.heap.size (Rd.nil _ _) (Nat.le_refl _) (by simp) h1 h2).mono ?_
  rintro e w1 ⟨v1, rfl, hown, hbel⟩
  rw [List.nil_append, ← hq] at hown
  obtain ⟨A1, c1, rfl, _, _, hr1⟩ := hown.rd.bytes
  obtain ⟨b1, o1, rfl, _, hcc⟩ := hr1.addr (by rw [hq, be_length]; omega)
  refine ⟨b1, o1, c1, rfl, Lib.hid fun j v h => cell_of_bytes hcc h, Lib.hid ((show Blk w.drew g l from hg).kept hbel), Lib.hid ?_⟩
  exact ((Below.refl g w).drew).trans (hbel.mono (Nat.le_of_lt hg.lt))
set_option maxHeartbeats 1000000 in
theorem pgPut_any (g : Nat) (l : List UInt8) (n a s : Nat) (w : World) (hg : Blk w g l) (hl : l.length = 256) (h1 : 1 ≤ s) (h2 : s ≤ 8) (h3 : a + s ≤ 256) :
    Calls Try.prog 17 #[.slice (some ⟨g, 0, none⟩) 256 256, .int .u64 n, .int .i64 (a : Int), .int .i64 (s : Int)] w fun e w' => e = .returned (.tuple #[]) ∧ Blk w' g (spl l a (be s n)) ∧ Below g w w' := by
  have ha : (0 : Int) ≤ (a : Int) := by omega
  have ha2 : (a : Int) ≤ 256 := by omega
  have ha3 : a ≤ 256 := by omega
  have hac : ¬ 256 = a := by omega
  have hlt := hg.lt
  obtain ⟨q, hq⟩ : ∃ q, q = be s n := ⟨_, rfl⟩
  have hql : q.length = s := by rw [hq, be_length]
  have Hp := Lib.hid (put_bytes g l q n s w hg hq h1 h2)
  rw [← hq]
  have hn0 : 0 < q.length := by omega
  have hmin : (cellsB q).length = Nat.min q.length (256 - a) := by rw [cellsB_length]; exact (Nat.min_eq_left (by omega)).symm
  have hfit : a + (cellsB q).length ≤ (cellsB l).length := by rw [cellsB_length, cellsB_length]; omega
  have Hmin := Lib.hid hmin
  have Hfit := Lib.hid hfit
  have Hg := Lib.hid hg
  have Hl := Lib.hid hl
  have Hql := Lib.hid hql
  clear hg hl hq hql hmin hfit
  go_enter Try.func17, Try.ntmps17
  go_wp2
  go_region_law (first
    | (refine step_copy_splice rfl (.tmp 10) (.tmp 13) 23 23 rfl 5 Try.underlying23 info_size1 _ _ _ _ _ _ (by rfl) (by rfl) g a (cellsB l) 5 HB1.out (cellsB q) Hmin.out (fun _ => ⟨rfl, _, rfl, HC1.out⟩) Hfit.out (cellsB_one _) g w Hb1.out (Nat.le_refl _) ?_; intro w2 hg2 hb2)
    | (go_simp; go_at_call 25; refine Hp.out.mono ?_; rintro e w1 ⟨b1, o1, c1, rfl, HC1, HB1, Hb1⟩))
  go_end0
  exact ⟨rfl, by unfold Blk; rw [← splice_cells]; exact hg2.out, hb2⟩

/-- The Body, or none where a byte behind it is not 0. -/
def pgCut (l : List UInt8) : List UInt8 := if pgTail l then pgBody l else []
theorem pgCut_yes {l : List UInt8} (h : pgTail l = true) : pgCut l = pgBody l := by unfold pgCut; rw [h]; rfl
theorem pgCut_no {l : List UInt8} (h : pgTail l = false) : pgCut l = [] := by unfold pgCut; rw [h]; rfl
theorem all_step (t : List UInt8) (k : Nat) (hk : k < t.length) (h : (t.take k).all (· == 0) = true) (h0 : t[k] = 0) : (t.take (k + 1)).all (· == 0) = true := by
  rw [List.take_succ_eq_append_getElem hk, List.all_append, h, h0]; rfl
theorem all_stop (t : List UInt8) (k : Nat) (hk : k < t.length) (h0 : t[k] ≠ 0) : t.all (· == 0) = false := by
  rw [Bool.eq_false_iff]
  intro h
  have := List.all_eq_true.1 h t[k] (List.getElem_mem hk)
  exact h0 (by simpa using this)
set_option maxHeartbeats 1000000 in
theorem pgBodyOf_long (A : Option Addr) (c : Nat) (l : List UInt8) (w : World) (B : Nat) (hr : Rd w B (.slice A l.length c) (cellsB l)) (hl : l.length = 256) (h : 232 < fieldAt l 6 2) :
    Calls Try.prog 23 #[.slice A l.length c] w fun e w' => e = .returned (.tuple #[.slice none 0 0, .bool false]) ∧ w = w' := by
  have hg := pgGet_any A c l 6 2 w B hr (by omega) (by omega) (by omega)
  have hf : fieldAt l 6 2 < 65536 := by
    have := ofBe_lt ((l.drop 6).take 2) 0 0 (by simp)
    have h2 : ((l.drop 6).take 2).length = 2 := by simp; omega
    rw [h2] at this
    exact this
  obtain ⟨n, hn⟩ : ∃ n, n = fieldAt l 6 2 := ⟨_, rfl⟩
  rw [← hn] at hg h hf
  have hn1 : (n : Int) < 65536 := by omega
  have hn2 : (232 : Int) < (n : Int) := by omega
  have Hg := Lib.hid hg
  have Hl := Lib.hid hl
  clear hg hn hl h
  go_enter Try.func23, Try.ntmps23
  go_wp2_with (go_at_call 22; refine Hg.out.mono ?_; rintro e w' ⟨rfl, rfl⟩)
  go_ret2
  exact ⟨rfl, rfl⟩
set_option maxHeartbeats 1000000 in
theorem pgBodyOf_any (A : Option Addr) (c : Nat) (l : List UInt8) (w : World) (B : Nat) (hr : Rd w B (.slice A l.length c) (cellsB l)) (hB : B ≤ w.heap.size) (hl : l.length = 256) (h : fieldAt l 6 2 ≤ 232) :
    Calls Try.prog 23 #[.slice A l.length c] w fun e w' => ∃ v', e = .returned (.tuple #[v', .bool (pgTail l)]) ∧ Mine w' w.heap.size 5 v' (cellsB (pgCut l)) ∧ Below w.heap.size w w' := by
  have hg := pgGet_any A c l 6 2 w B hr (by omega) (by omega) (by omega)
  obtain ⟨b, o, rfl, hb, hc⟩ := hr.addr (by omega)
  obtain ⟨_, _, e, g1, g2, _⟩ := hr.bytes
  injection e with e1 e2 e3
  subst e3
  clear e1 e2
  obtain ⟨n, hn⟩ : ∃ n, n = fieldAt l 6 2 := ⟨_, rfl⟩
  obtain ⟨t, ht⟩ : ∃ t, t = l.drop (24 + n) := ⟨_, rfl⟩
  have hcut := cut_yes _ c l 24 n w B hr hB (by omega) (by omega)
  have etail : pgTail l = t.all (· == 0) := by rw [ht, hn]; rfl
  have ebody : pgBody l = (l.drop 24).take n := by rw [hn]; rfl
  rw [← ebody] at hcut
  rw [← hn] at hg h
  have htl : t.length = l.length - (24 + n) := by rw [ht]; simp
  have hct : ∀ (j : Nat) (h : j < t.length), w.cell? ⟨b, o + (24 + n) + j, none⟩ = some (.int .u8 (t[j].toNat : Int)) := by
    intro j hj
    have := hc (24 + n + j) (by omega)
    rw [Nat.add_assoc, this]
    simp [ht]
  have hn1 : (n : Int) ≤ 232 := by omega
  have hn2 : 24 + n ≤ l.length := by omega
  have hn3 : 24 + n ≤ c := by omega
  have Hg := Lib.hid hg
  have Hc := Lib.hid hct
  have Hcut := Lib.hid hcut
  have Ht := Lib.hid etail
  have Htl := Lib.hid htl
  clear hg hn hl h hc hct hcut htl etail ebody ht
  have hd : decide ((232 : Int) < (n : Int)) = false := by simp; omega
  by_cases hca : c = 24 + n
  · have hz : l.length - (24 + n) = 0 := by omega
    have hz2 : (24 : Int) + (n : Int) = (l.length : Int) := by omega
    have Htt : pgTail l = true := by
      have e : t = [] := List.eq_nil_of_length_eq_zero (by rw [Htl.out]; exact hz)
      rw [Ht.out, e]; rfl
    have Hcy := Lib.hid (pgCut_yes Htt)
    have Htt' := Lib.hid Htt
    clear Htt
    subst hca
    go_enter Try.func23, Try.ntmps23
    go_wp2_with (go_at_call 22; refine Hg.out.mono ?_; rintro e w' ⟨rfl, rfl⟩)
    go_loop [17] (fun i => i = .int .i64 0) (fun _ => 0)
    case atStart => rfl
    case round =>
      obtain rfl := hrel
      go_wp2_with (go_at_call 29; refine Hcut.out.mono ?_; rintro e w' ⟨v', rfl, hown, hbel⟩)
      go_ret2
      rw [Hcy.out, Htt'.out]
      exact ⟨_, rfl, hown, hbel⟩
  · go_enter Try.func23, Try.ntmps23
    go_wp2_with (go_at_call 22; refine Hg.out.mono ?_; rintro e w' ⟨rfl, rfl⟩)
    go_loop [17] (fun i => ∃ k : Nat, k ≤ l.length - (24 + n) ∧ i = .int .i64 (k : Int) ∧ (t.take k).all (· == 0) = true) (fun i => l.length - (24 + n) - (intOf i).toNat)
    case atStart => exact ⟨0, Nat.zero_le _, rfl, rfl⟩
    case round =>
      obtain ⟨k, hk, rfl, hall⟩ := hrel
      have Hall := Lib.hid hall
      clear hall
      by_cases hlt : k < l.length - (24 + n)
      · have hkt : k < t.length := by rw [Htl.out]; exact hlt
        have hcell := Hc.out k hkt
        obtain ⟨x, hx⟩ : ∃ x, x = t[k] := ⟨_, rfl⟩
        rw [← hx] at hcell
        have Hx := Lib.hid hx
        clear hx
        by_cases hx0 : x = 0
        · have hxz : ((x.toNat : Int) != 0) = false := by rw [hx0]; rfl
          have Hx0 := Lib.hid hx0
          clear hx0
          go_wp2_with fail
          go_round
          case rel => exact ⟨k + 1, by omega, by go_num, all_step t k hkt Hall.out (by rw [← Hx.out]; exact Hx0.out)⟩
          case measure => simp [intOf]; omega
        · have hxz : ((x.toNat : Int) != 0) = true := by
            rw [bne_iff_ne]; intro e; apply hx0; apply UInt8.toNat_inj.1; show _ = 0; omega
          have Hst := Lib.hid (all_stop t k hkt (by rw [← Hx.out]; exact hx0))
          clear hx0
          go_wp2_with fail
          go_ret2
          have e : pgTail l = false := Ht.out.trans Hst.out
          rw [pgCut_no e, e]
          exact ⟨_, rfl, Mine.nil _ _ _, Below.refl _ _⟩
      · have hkk : k = l.length - (24 + n) := by omega
        have Hall2 : Hid (t.all (· == 0) = true) := by
          apply Lib.hid
          have := Hall.out
          rwa [List.take_of_length_le (by rw [Htl.out]; omega)] at this
        have Hkk := Lib.hid hkk
        clear hkk
        go_wp2_with (go_at_call 29; refine Hcut.out.mono ?_; rintro e w' ⟨v', rfl, hown, hbel⟩)
        go_ret2
        have e : pgTail l = true := Ht.out.trans Hall2.out
        rw [pgCut_yes e, e]
        exact ⟨_, rfl, hown, hbel⟩
end Go.Proofs.Ytnbmcecmdokogaa
