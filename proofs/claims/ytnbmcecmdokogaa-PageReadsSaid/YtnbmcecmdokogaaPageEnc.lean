/-
  page.Encode, by contracts: none for a number or a kind that may not be, none for a Body that is too long, else the page's bytes.
-/
import Derived.Test.YtnbmcecmdokogaaPageB
namespace Go.Proofs.Ytnbmcecmdokogaa
open Go.RowKit
/-- A page by value. -/
abbrev pgVal (kind gen : Int) (v : Value) : Value := .agg #[.int .i64 kind, .int .u64 gen, v]
/-- A page's block: its fields, and that they may be written. -/
theorem pgBox_cells (w : World) (kind gen : Int) (v : Value) :
    (w.alloc (.cells #[.int .i64 kind, .int .u64 gen, v] 25)).cell? ⟨w.heap.size, 0, none⟩ = some (.int .i64 kind) ∧
    (w.alloc (.cells #[.int .i64 kind, .int .u64 gen, v] 25)).cell? ⟨w.heap.size, 1, none⟩ = some (.int .u64 gen) ∧
    (w.alloc (.cells #[.int .i64 kind, .int .u64 gen, v] 25)).cell? ⟨w.heap.size, 2, none⟩ = some v :=
  ⟨by rw [World.cell?_alloc_mark]; rfl, by rw [World.cell?_alloc_mark]; rfl, by rw [World.cell?_alloc_mark]; rfl⟩

set_option maxHeartbeats 1000000 in
theorem pgEnc_arg (no kind gen : Int) (A : Option Addr) (n c : Nat) (w : World) (h : (no < 0 ∨ 1599 < no) ∨ kind < 1 ∨ 4 < kind) :
    Calls Try.prog 8 #[.int .i64 no, pgVal kind gen (.slice A n c)] w fun e w' => e = .returned (.tuple #[.slice none 0 0, .int .i64 1]) ∧ Below w.heap.size w w' := by
  by_cases hno : no < 0 ∨ 1599 < no
  · have H := Lib.hid (fun W => pgNum_no no W hno)
    clear h hno
    go_enter Try.func8, Try.ntmps8
    go_wp2_with (go_at_call 15; refine (H.out _).mono ?_; rintro e w' ⟨rfl, rfl⟩)
    go_ret2
    exact ⟨rfl, (Below.refl _ _).alloc (Nat.le_refl _) _⟩
  · have H := Lib.hid (fun W => pgNum_yes no W (by omega) (by omega))
    have H2 := Lib.hid (fun W => pgKind_no kind W (by omega))
    clear h hno
    obtain ⟨c0, _, _⟩ := pgBox_cells w kind gen (.slice A n c)
    go_enter Try.func8, Try.ntmps8
    go_wp2_with (first | (go_at_call 15; refine (H.out _).mono ?_; rintro e w' ⟨rfl, rfl⟩) | (go_at_call 16; refine (H2.out _).mono ?_; rintro e w' ⟨rfl, rfl⟩))
    go_ret2
    exact ⟨rfl, (Below.refl _ _).alloc (Nat.le_refl _) _⟩
set_option maxHeartbeats 1000000 in
theorem pgEnc_long (no kind gen : Int) (A : Option Addr) (n c : Nat) (w : World) (h1 : 0 ≤ no) (h2 : no ≤ 1599) (h3 : 1 ≤ kind) (h4 : kind ≤ 4) (hn : 232 < n) (hn2 : n ≤ 9223372036854775807) :
    Calls Try.prog 8 #[.int .i64 no, pgVal kind gen (.slice A n c)] w fun e w' => e = .returned (.tuple #[.slice none 0 0, .int .i64 10]) ∧ Below w.heap.size w w' := by
  obtain ⟨c0, _, c2⟩ := pgBox_cells w kind gen (.slice A n c)
  go_enter Try.func8, Try.ntmps8
  go_wp2_with (first | (go_at_call 15; refine (pgNum_yes _ _ h1 h2).mono ?_; rintro e w' ⟨rfl, rfl⟩) | (go_at_call 16; refine (pgKind_yes _ _ h3 h4).mono ?_; rintro e w' ⟨rfl, rfl⟩))
  go_ret2
  exact ⟨rfl, (Below.refl _ _).alloc (Nat.le_refl _) _⟩

theorem Blk.of_mine {w : World} {base g : Nat} {l : List UInt8} (h : Mine w base 5 (.slice (some ⟨g, 0, none⟩) 256 256) (cellsB l)) (hl : l.length = 256) : Blk w g l := by
  rcases h.2 with ⟨e1, hn⟩ | ⟨g', cap, cur, e1, hbg, hg, hnc, hcm, hcs, htake⟩
  · injection e1 with e1; cases e1
  · injection e1 with e1 e2 e3
    injection e1 with e1
    injection e1 with e1
    subst e1 e3
    rw [cellsB_length, hl] at htake
    unfold Blk
    rw [hg, ← htake, List.take_of_length_le (by simp [hcs])]
theorem Blk.mine {w : World} {base g : Nat} {l : List UInt8} (h : Blk w g l) (hl : l.length = 256) (hb : base ≤ g) : Mine w base 5 (.slice (some ⟨g, 0, none⟩) 256 256) (cellsB l) := by
  refine ⟨by omega, .inr ⟨g, 256, (cellsB l).toArray, ?_, hb, h, ?_, ?_, ?_, ?_⟩⟩
  · rw [cellsB_length, hl]
  · rw [cellsB_length, hl]; exact Nat.le_refl _
  · unfold maxLen; omega
  · simp [cellsB_length, hl]
  · rw [cellsB_length, hl]; exact List.take_of_length_le (by simp [cellsB_length, hl])

/-- copy(b, s), b the whole block, s a text that fits. -/
theorem wpList_copy_text {w : World} {ops : Array Oper} {rest : List Oper} {o : Oper} {a : Act} {Q : Exit → Act → World → Prop} (hgd : o.guard = none) (d s : Operand) (dT sT : TypeId)
    (ho : o.op = .call { callee := .builtin .copy, args := #[d, s], argTypes := #[dT, sT] }) (hu : Try.prog.underlying dT = some (.slice 5)) (g : Nat) (l m : List UInt8) (hd : a.eval d = .slice (some ⟨g, 0, none⟩) 256 256) (hs : a.eval s = .string ⟨m.toArray⟩)
    (hg : Blk w g l) (hl : l.length = 256) (hm : m.length ≤ 256) (h : ∀ w', Hid (Blk w' g (spl l 0 m)) → Hid (Below g w w') → wpList Try.prog ops Q rest (a.put o.dst (goInt m.length)) w') :
    wpList Try.prog ops Q (o :: rest) a w := by
  have hsz : (ByteArray.mk m.toArray).size = m.length := by simp [ByteArray.size]
  have hrun := Lib.run_copy_row_string (P := Try.prog) w dT sT o.type 5 g 0 256 256 ⟨m.toArray⟩ (cellsB l).toArray 5 hu info_size1 hg (by rw [hsz]; exact hm) (by rw [hsz]; simp [cellsB_length]; omega)
  refine wpList_plain hgd fun K hK => ?_
  unfold Oper.wp execOp
  simp only [ho, resolve, invoke, builtin, Sem.run_bind, Sem.run_pure, Result.andThen_ok, List.map_toArray, List.map_cons, List.map_nil, hd, hs, hrun]
  refine hK _ _ ?_
  rw [hsz]
  refine h _ (Lib.hid ?_) (Lib.hid (below_setRow (Below.refl _ _) (Nat.le_refl _) _))
  unfold Blk
  have := setRow_heap w g (cellsB l).toArray (cellsB (spl l 0 m)).toArray 5 _ hg
  simpa [spl, cellsB, Lib.byteCells] using this
theorem pgSum_blk {w : World} {g : Nat} {l : List UInt8} (h : Blk w g l) (hl : l.length = 256) :
    Calls Try.prog 18 #[.slice (some ⟨g, 0, none⟩) 256 256] w fun e w' => e = .returned (.int .u64 (pgSum l : Nat)) ∧ Below w.heap.size w w' := by
  have hr := h.rd hl
  have := pgSum_any (some ⟨g, 0, none⟩) 256 l w (g + 1) (by rw [hl]; exact hr) h.lt hl
  rwa [hl] at this
/-- How far the bytes are laid: the block g has them, the page in block N is as it was. -/
structure PgSt (g N : Nat) (k gn v : Value) (W w : World) (l : List UInt8) : Prop where
  blk : Blk w g l
  len : l.length = 256
  bel : Below g W w
  lt : N < g
  c0 : w.cell? ⟨N, 0, none⟩ = some k
  c1 : w.cell? ⟨N, 1, none⟩ = some gn
  c2 : w.cell? ⟨N, 2, none⟩ = some v
theorem PgSt.next {g N : Nat} {k gn v : Value} {W w w' : World} {l l' : List UInt8} (h : PgSt g N k gn v W w l) (hb : Blk w' g l') (hl : l'.length = 256) (hbel : Below g w w') : PgSt g N k gn v W w' l' :=
  ⟨hb, hl, h.bel.trans hbel, h.lt, (hbel.cell (p := ⟨N, 0, none⟩) h.lt).trans h.c0, (hbel.cell (p := ⟨N, 1, none⟩) h.lt).trans h.c1, (hbel.cell (p := ⟨N, 2, none⟩) h.lt).trans h.c2⟩
theorem pgPut_st {g N : Nat} {k gn v : Value} {W w : World} {l : List UInt8} (h : PgSt g N k gn v W w l) (n a s : Nat) (h1 : 1 ≤ s) (h2 : s ≤ 8) (h3 : a + s ≤ 256) :
    Calls Try.prog 17 #[.slice (some ⟨g, 0, none⟩) 256 256, .int .u64 n, .int .i64 (a : Int), .int .i64 (s : Int)] w fun e w' => e = .returned (.tuple #[]) ∧ PgSt g N k gn v W w' (spl l a (be s n)) := by
  refine (pgPut_any g l n a s w h.blk h.len h1 h2 h3).mono ?_
  rintro e w' ⟨rfl, hb, hbel⟩
  exact ⟨rfl, h.next hb (by rw [spl_length _ _ _ (by rw [be_length, h.len]; exact h3), h.len]) hbel⟩
set_option maxHeartbeats 1000000 in
theorem pgEnc_ok (no kind gen : Nat) (A : Option Addr) (body : List UInt8) (c : Nat) (w : World) (B : Nat) (hr : Rd w B (.slice A body.length c) (cellsB body)) (hB : B ≤ w.heap.size)
    (h2 : no ≤ 1599) (h3 : 1 ≤ kind) (h4 : kind ≤ 4) (hn : body.length ≤ 232) :
    Calls Try.prog 8 #[.int .i64 (no : Int), pgVal kind gen (.slice A body.length c)] w fun e w' => ∃ v', e = .returned (.tuple #[v', .int .i64 0]) ∧ Mine w' w.heap.size 5 v' (cellsB (pgBytes kind no gen body)) ∧ Below w.heap.size w w' := by
  obtain ⟨c0, c1, c2⟩ := pgBox_cells w kind gen (.slice A body.length c)
  obtain ⟨i, hi, hz0, hz1, hz2⟩ := info_parts info_u8
  have hk : (kind : Int) ≤ 4 := by omega
  have hno : (no : Int) ≤ 1599 := by omega
  have hbn : (body.length : Int) ≤ 232 := by omega
  have ez : (madeCells (Value.int IntKind.u8 0).cells (256 * 1)).toList = cellsB (List.replicate 256 0) := by
    have e : (Value.int IntKind.u8 0).cells = #[Value.int IntKind.u8 0] := rfl
    rw [e, Nat.mul_one, toList_madeCells_one]
    unfold cellsB
    rw [List.map_replicate]
    rfl
  obtain ⟨W, hW⟩ : ∃ W, W = w.alloc (.cells #[.int .i64 (kind : Int), .int .u64 (gen : Int), .slice A body.length c] 25) := ⟨_, rfl⟩
  have hWs : W.heap.size = w.heap.size + 1 := by rw [hW]; simp
  rw [← hW] at c0 c1 c2
  obtain ⟨z, hz⟩ : ∃ z : List UInt8, z = List.replicate 256 0 := ⟨_, rfl⟩
  have hzl : z.length = 256 := by rw [hz]; exact List.length_replicate ..
  rw [← hz] at ez
  have HW := Lib.hid hW
  have Hz := Lib.hid hz
  have Hzl := Lib.hid hzl
  have Ez := Lib.hid ez
  have Hws := Lib.hid hWs
  have Box := Lib.hid (And.intro c0 (And.intro c1 c2))
  clear hW hz hzl ez hWs c0 c1 c2
  go_enter Try.func8, Try.ntmps8
  go_wp2_with fail
  rw [← HW.out]
  have c0 := Box.out.1
  have c2 := Box.out.2.2
  refine (pgNum_yes _ _ (by omega) (by omega)).mono ?_
  rintro e w' ⟨rfl, rfl⟩
  obtain ⟨g, hge⟩ : ∃ g, g = W.heap.size := ⟨_, rfl⟩
  have hlt : w.heap.size < g := by rw [hge, Hws.out]; exact Nat.lt_succ_self _
  have hst1 : ∀ w1 : World, w1.ownsRow W.heap.size 5 1 (.slice (some ⟨W.heap.size, 0, none⟩) 256 256) 256 (madeCells (Value.int IntKind.u8 0).cells (256 * 1)).toList → W.grownBy w1 none → PgSt g w.heap.size (.int .i64 (kind : Int)) (.int .u64 (gen : Int)) (.slice A body.length c) W w1 z := by
    intro w1 hown hgr
    rw [Ez.out] at hown
    have hb1 := Blk.of_mine (Mine.of_own hown) Hzl.out
    have hbel1 : Below W.heap.size W w1 := (Below.refl _ _).grown hgr (Nat.le_refl _) (fun k h => by cases h)
    rw [← hge] at hb1 hbel1
    exact ⟨hb1, Hzl.out, hbel1, hlt, (hbel1.cell (p := ⟨_, 0, none⟩) hlt).trans c0, (hbel1.cell (p := ⟨_, 1, none⟩) hlt).trans Box.out.2.1, (hbel1.cell (p := ⟨_, 2, none⟩) hlt).trans c2⟩
  have Hst1 := Lib.hid hst1
  have Hge := Lib.hid hge
  clear hst1 hge
  go_wp2_with (first
    | (go_at_call 16; refine (pgKind_yes _ _ (by omega) (by omega)).mono ?_; rintro e w' ⟨rfl, rfl⟩)
    | (at_make; refine wpList_make_full _ rfl _ _ 23 rfl W.heap.size 5 i _ 1 Try.underlying23 hi hz0 hz1 _ _ _ _ 256 rfl rfl rfl rfl (by rw [hz2]; omega) (by unfold maxLen; omega) (Nat.le_refl _) ?_; intro w1 hown hgr; have st1 := Hst1.out w1 hown hgr; clear hown hgr c0 c2; rw [← Hge.out])
    | (with_reducible refine wpList_copy_text rfl (.tmp 21) (.const (.string ⟨#[83, 84, 78, 67]⟩)) 23 9 rfl Try.underlying23 g z [83, 84, 78, 67] rfl rfl st1.blk st1.len (by simp) ?_; intro w2 hb2 hbel2))
  have st2 := st1.next hb2.out (by rw [spl_length _ _ _ (by rw [st1.len]; simp), st1.len]) hbel2.out
  clear st1 hb2 hbel2
  obtain ⟨l2, e2⟩ : ∃ l, l = spl z 0 [83, 84, 78, 67] := ⟨_, rfl⟩
  rw [← e2] at st2
  have E2 := Lib.hid e2
  clear e2
  refine (pgPut_st st2 1 4 1 (by omega) (by omega) (by omega)).mono ?_
  rintro e w3 ⟨rfl, st3⟩
  obtain ⟨l3, e3⟩ : ∃ l, l = spl l2 4 (be 1 1) := ⟨_, rfl⟩
  rw [← e3] at st3
  have E3 := Lib.hid e3
  have c0 := st3.c0
  clear e3 st2
  go_wp2_with fail
  refine (pgPut_st st3 kind 5 1 (by omega) (by omega) (by omega)).mono ?_
  rintro e w4 ⟨rfl, st4⟩
  obtain ⟨l4, e4⟩ : ∃ l, l = spl l3 5 (be 1 kind) := ⟨_, rfl⟩
  rw [← e4] at st4
  have E4 := Lib.hid e4
  clear c0 e4 st3
  have c0 := st4.c2
  go_wp2_with fail
  refine (pgPut_st st4 body.length 6 2 (by omega) (by omega) (by omega)).mono ?_
  rintro e w5 ⟨rfl, st5⟩
  obtain ⟨l5, e5⟩ : ∃ l, l = spl l4 6 (be 2 body.length) := ⟨_, rfl⟩
  rw [← e5] at st5
  have E5 := Lib.hid e5
  clear c0 e5 st4
  go_wp2_with fail
  refine (pgPut_st st5 no 8 4 (by omega) (by omega) (by omega)).mono ?_
  rintro e w6 ⟨rfl, st6⟩
  obtain ⟨l6, e6⟩ : ∃ l, l = spl l5 8 (be 4 no) := ⟨_, rfl⟩
  rw [← e6] at st6
  have E6 := Lib.hid e6
  have c0 := st6.c1
  clear e6 st5
  go_wp2_with fail
  refine (pgPut_st st6 gen 12 8 (by omega) (by omega) (by omega)).mono ?_
  rintro e w7 ⟨rfl, st7⟩
  obtain ⟨l7, e7⟩ : ∃ l, l = spl l6 12 (be 8 gen) := ⟨_, rfl⟩
  rw [← e7] at st7
  have E7 := Lib.hid e7
  clear c0 e7 st6
  have c0 := st7.c2
  go_wp2_with fail
  have hr7 : Rd w7 B (.slice A body.length c) (cellsB body) := by
    have h0 : Rd W B (.slice A body.length c) (cellsB body) := by rw [HW.out]; exact hr.alloc hB _
    exact h0.below (st7.bel.mono (by omega))
  have Hpos : Hid (0 < (cellsB body).length → ∃ ad, A = some ad ∧ ∀ j v, (cellsB body)[j]? = some v → w7.cell? (ad.add j) = some v) := by
    apply Lib.hid
    intro hp
    rw [cellsB_length] at hp
    obtain ⟨b, o, rfl, _, hc⟩ := hr7.addr hp
    exact ⟨_, rfl, fun j v h => cell_of_bytes hc h⟩
  have Hmin : Hid ((cellsB body).length = Nat.min body.length (256 - 24)) := by
    apply Lib.hid; rw [cellsB_length]; exact (Nat.min_eq_left (by omega)).symm
  have Hfit : Hid (24 + (cellsB body).length ≤ (cellsB l7).length) := by
    apply Lib.hid; rw [cellsB_length, cellsB_length, st7.len]; omega
  clear hr7
  go_region_law (refine step_copy_splice rfl (.tmp 45) (.tmp 47) 23 23 rfl 5 Try.underlying23 info_size1 _ _ _ _ _ _ (by rfl) (by rfl) g 24 (cellsB l7) 5 st7.blk (cellsB body) Hmin.out (fun hp => ⟨rfl, Hpos.out hp⟩) Hfit.out (cellsB_one _) g w7 (Below.refl g w7).drew (Nat.le_refl _) ?_; intro w8 hg8 hb8)
  have st8 := st7.next (l' := spl l7 24 body) (by unfold Blk; rw [← splice_cells]; exact hg8.out) (by rw [spl_length _ _ _ (by rw [st7.len]; omega), st7.len]) hb8
  clear c0 st7 hg8 hb8 Hpos Hmin Hfit
  obtain ⟨l8, e8⟩ : ∃ l, l = spl l7 24 body := ⟨_, rfl⟩
  rw [← e8] at st8
  have E8 := Lib.hid e8
  clear e8
  go_wp2_with fail
  refine (pgSum_blk st8.blk st8.len).mono ?_
  rintro e w9 ⟨rfl, hb9⟩
  have st9 := st8.next (st8.blk.kept hb9) st8.len (hb9.mono (Nat.le_of_lt st8.blk.lt))
  clear st8 hb9
  go_wp2_with fail
  refine (pgPut_st st9 (pgSum l8) 20 4 (by omega) (by omega) (by omega)).mono ?_
  rintro e w10 ⟨rfl, st10⟩
  go_wp2_with fail
  go_ret2
  have hl8 : l8 = pgRaw kind no gen body := by rw [E8.out, E7.out, E6.out, E5.out, E4.out, E3.out, E2.out, Hz.out]; rfl
  have st11 := st10
  rw [hl8, pgRaw_sum kind no gen body hn] at st11
  refine ⟨_, rfl, st11.blk.mine st11.len (Nat.le_of_lt hlt), ?_⟩
  have hb0 : Below w.heap.size w W := by rw [HW.out]; exact (Below.refl _ _).alloc (Nat.le_refl _) _
  exact hb0.trans (st11.bel.mono (Nat.le_of_lt hlt))
end Go.Proofs.Ytnbmcecmdokogaa
