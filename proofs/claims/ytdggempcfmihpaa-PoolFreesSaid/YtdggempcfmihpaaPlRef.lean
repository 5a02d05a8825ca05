/-
  The document's Spares, refused and Free by their contracts.
-/
import Derived.Test.YtdggempcfmihpaaPlPool
import Derived.Test.YtdggempcfmihpaaWordRef
import Derived.Test.YtdggempcfmihpaaWordCfgRef
import Derived.Test.YtdggempcfmihpaaWordHeadsWalk
namespace Go.Proofs.Ytdggempcfmihpaa.Pl
open Go.RowKit Mr Me Wp Wc Wm
set_option linter.unusedVariables false
set_option linter.unusedSimpArgs false
theorem kind10 (w : World) : Calls Try.prog 63 #[.int .i64 10] w fun e w' => e = .returned (.int .i64 2) ∧ w' = w := by
  go_enter Try.func63, Try.ntmps63
  go_wp2
  go_ret
  exact ⟨rfl, rfl⟩
set_option maxHeartbeats 2000000 in
theorem fits10 (x : Int) (w : World) (h0 : 0 ≤ x) (h1 : x ≤ 18446744073709551615) : Calls Try.prog 41 #[.int .i64 10, .int .u64 x] w fun e w' => e = .returned (.bool (okl false x)) ∧ w' = w := by
  have L := fun w => refIsLink x w h0 h1
  have M := fun w => refLinkMark x w h0 h1
  rw [show (x / 4294967296 % 2 == 1) = mkd x from rfl] at M
  unfold okl
  simp only [Bool.false_or]
  generalize isLinkB x = b at *
  generalize mkd x = m at *
  replace L := Mr.hid L
  replace M := Mr.hid M
  cases b with
  | false =>
    go_enter Try.func41, Try.ntmps41
    go_wp2_with (first | (go_at_call 63; refine (kind10 _).mono ?_; rintro e w' ⟨rfl, rfl⟩) | (go_at_call 25; refine (L.out _).mono ?_; rintro e w' ⟨rfl, rfl⟩))
    go_ret
    exact ⟨by simp, rfl⟩
  | true =>
    go_enter Try.func41, Try.ntmps41
    go_wp2_with (first | (go_at_call 63; refine (kind10 _).mono ?_; rintro e w' ⟨rfl, rfl⟩) | (go_at_call 25; refine (L.out _).mono ?_; rintro e w' ⟨rfl, rfl⟩) | (go_at_call 26; refine (M.out _).mono ?_; rintro e w' ⟨rfl, rfl⟩))
    go_ret
    exact ⟨by simp, rfl⟩
/-- What Spares answers: the list, or that something is odd. -/
def spr (c : C7) (ws : List Int) : Option (List Int) := if wat ws 0 % 4294967296 ≤ 2147483647 then (rch (wdr c ws 10) false (c.a5.toNat + 1) (List.replicate c.a5.toNat false) (nxt (wat ws 0))).1 else none
def cfB (c : C7) : Obj := .cells #[.int .i64 c.a0, .int .i64 c.a1, .int .i64 c.a2, .int .i64 c.a3, .int .i64 c.a4, .int .i64 c.a5, .int .i64 c.a6] 23 (0, 0)
theorem cfB_cells {W : World} {b : Nat} {c : C7} (h : W.heap[b]? = some (cfB c)) : W.cell? ⟨b, 0, none⟩ = some (.int .i64 c.a0) ∧ W.cell? ⟨b, 1, none⟩ = some (.int .i64 c.a1) ∧ W.cell? ⟨b, 2, none⟩ = some (.int .i64 c.a2) ∧ W.cell? ⟨b, 3, none⟩ = some (.int .i64 c.a3) ∧ W.cell? ⟨b, 4, none⟩ = some (.int .i64 c.a4) ∧ W.cell? ⟨b, 5, none⟩ = some (.int .i64 c.a5) ∧ W.cell? ⟨b, 6, none⟩ = some (.int .i64 c.a6) ∧ b < W.heap.size := by
  have hlt := (Array.getElem?_eq_some_iff.1 h).1
  unfold cfB at h
  exact ⟨by simp [World.cell?, h], by simp [World.cell?, h], by simp [World.cell?, h], by simp [World.cell?, h], by simp [World.cell?, h], by simp [World.cell?, h], by simp [World.cell?, h], hlt⟩
/-- Where Spares stands in the world. -/
structure Sp (W wr : World) (c : C7) (aw : Addr) (ws : List Int) (gs : Nat) (sn : List Bool) : Prop where
  bel : Below W.heap.size W wr
  cf : wr.heap[W.heap.size]? = some (cfB c)
  row : wr.heap[gs]? = some (.cells (bls sn) 4 (0, 0))
  gt : W.heap.size < gs
  wd : Wds wr aw ws
section
variable {W wr w' : World} {c : C7} {aw : Addr} {ws : List Int} {gs : Nat} {sn : List Bool}
theorem Sp.fr {S : Nat → Prop} (h : Sp W wr c aw ws gs sn) (hf : Fr wr w' S) (h1 : ∀ k, S k → W.heap.size < k ∧ k ≠ gs) (h2 : aw.block < W.heap.size) : Sp W w' c aw ws gs sn :=
  ⟨h.bel.trans (hf.below (fun k hk => Nat.le_of_lt (h1 k hk).1) h.bel.size), (hf.block _ (cfB_cells h.cf).2.2.2.2.2.2.2 (fun e => by have := (h1 _ e).1; omega)).trans h.cf, (hf.block _ (Array.getElem?_eq_some_iff.1 h.row).1 (fun e => (h1 _ e).2 rfl)).trans h.row, h.gt, h.wd.fr hf (fun e => by have := (h1 _ e).1; omega)⟩
theorem Sp.below (h : Sp W wr c aw ws gs sn) (hb : Below wr.heap.size wr w') (h2 : aw.block < W.heap.size) : Sp W w' c aw ws gs sn := h.fr (S := fun _ => False) (Fr.of_below hb) (fun _ e => e.elim) h2
theorem Sp.put (h : Sp W wr c aw ws gs sn) (s : Nat) (h2 : aw.block < W.heap.size) : Sp W (wr.setCell ⟨gs, s, none⟩ (.bool true)) c aw ws gs (sn.set s true) := by
  have hb := setBlk h.row s (.bool true)
  rw [bls_set] at hb
  have hf : Fr wr (wr.setCell ⟨gs, s, none⟩ (.bool true)) (fun k => k = gs) := (Fr.refl _ _).setCell _ _ (.inl rfl)
  have := h.gt
  exact ⟨h.bel.setCell (by show W.heap.size ≤ gs; omega) _, (hf.block _ (cfB_cells h.cf).2.2.2.2.2.2.2 (fun e => by have e' : W.heap.size = gs := e; omega)).trans h.cf, hb, h.gt, h.wd.fr hf (fun e => by have e' : aw.block = gs := e; omega)⟩
theorem Sp.cells (h : Sp W wr c aw ws gs sn) : wr.cell? ⟨W.heap.size, 0, none⟩ = some (.int .i64 c.a0) ∧ wr.cell? ⟨W.heap.size, 1, none⟩ = some (.int .i64 c.a1) ∧ wr.cell? ⟨W.heap.size, 2, none⟩ = some (.int .i64 c.a2) ∧ wr.cell? ⟨W.heap.size, 3, none⟩ = some (.int .i64 c.a3) ∧ wr.cell? ⟨W.heap.size, 4, none⟩ = some (.int .i64 c.a4) ∧ wr.cell? ⟨W.heap.size, 5, none⟩ = some (.int .i64 c.a5) ∧ wr.cell? ⟨W.heap.size, 6, none⟩ = some (.int .i64 c.a6) ∧ W.heap.size < wr.heap.size := cfB_cells h.cf
theorem Sp.seen (h : Sp W wr c aw ws gs sn) {s : Nat} {b : Bool} (hs : sn[s]? = some b) : wr.cell? ⟨gs, s, none⟩ = some (.bool b) ∧ wr.frozen? ⟨gs, s, none⟩ = false := by
  constructor
  · simp [World.cell?, h.row, bls, hs]
  · simp [World.frozen?, h.row]
set_option maxRecDepth 100000 in
set_option maxHeartbeats 4000000 in
theorem spares_any (hc : c.ok = true) (hl : (ws.length : Int) = c.at 14) (hw : Wds W aw ws) (cap : Nat) :
    Calls Try.prog 17 #[c.val, .slice (some aw) ws.length cap] W fun e w' => ∃ va, e = .returned (.tuple #[va, .bool (spr c ws).isSome]) ∧ Has w' (fun k => W.heap.size ≤ k) 3 1 va ((spr c ws).getD []).length (ints ((spr c ws).getD [])) ∧ Below W.heap.size W w' := by
  have hok := ok_of (show cfgB c.a0 c.a1 c.a2 c.a3 c.a4 c.a5 c.a6 = true from hc)
  have hl0 : 0 < ws.length := by
    have m := bmono hok 13 14 (by omega) (by omega)
    have m2 := many_bd hok ((13 : Nat) : Int)
    have b := base_bd hok 13
    unfold C7.at at hl
    omega
  have hawl : aw.block < W.heap.size := by
    have := World.block_lt_of_cell? W _ (hw.rd 0 _ (wat_some hl0))
    rwa [blk_add] at this
  obtain ⟨n, hn⟩ := Int.eq_ofNat_of_zero_le (show 0 ≤ c.a5 by obtain ⟨-, -, -, -, h5, -, -, -⟩ := hok; omega)
  have hn2 : n ≤ 1024 := by obtain ⟨-, -, -, -, -, h5, -, -⟩ := hok; omega
  have hx := hw.in 0
  have H := fun W => refIsHead (wat ws 0) W hx.1 hx.2
  have LI := fun W => refLinkIndex (wat ws 0) W hx.1 hx.2
  rw [show wat ws 0 % 4294967296 - 1 = nxt (wat ws 0) from rfl] at LI
  have hd0 : (aw.add 0) = aw := by cases aw; rename_i b o f; cases f <;> simp [Addr.add]
  have r0 : ∀ w', Wds w' aw ws → w'.cell? aw = some (.int .u64 (wat ws 0)) := fun w' h => by have := h.rd 0 _ (wat_some hl0); rwa [hd0] at this
  have K0 : Sp W ((W.alloc (cfB c)).alloc (.cells (bls (List.replicate n false)) 4 (0, 0))) c aw ws (W.heap.size + 1) (List.replicate n false) := by
    have hB : Below W.heap.size W ((W.alloc (cfB c)).alloc (.cells (bls (List.replicate n false)) 4 (0, 0))) := ((Below.refl _ _).alloc (Nat.le_refl _) _).alloc (by simp) _
    exact ⟨hB, old_at (new_at _ _ _ rfl) _, new_at _ _ _ (by simp), by omega, hw.fr (S := fun _ => False) (Fr.of_below hB) (fun e => e)⟩
  have BS := fun W => refBase_i c.a0 c.a1 c.a2 c.a3 c.a4 c.a5 c.a6 10 W hok (by omega) (by omega)
  rw [show base c.a1 c.a2 c.a5 c.a6 (10 : Int).toNat = c.at 10 from rfl] at BS
  obtain ⟨m, hm⟩ := Int.eq_ofNat_of_zero_le (show 0 ≤ c.at 10 from (base_bd hok 10).1)
  have hm2 : m ≤ 20000 := by have := (base_bd hok 10).2; unfold C7.at at hm; omega
  rw [hm] at BS
  have h10 : ∀ s : Nat, s < n → m + s < ws.length ∧ wat ws (m + s) = wdr c ws 10 s := fun s hs => by
    have := (At.lt (c := c) (r := 10) (i := s) ⟨hc, by omega, by omega, by omega, by omega, by unfold items; simp; omega⟩)
    have e10 : (10 : Int).toNat = 10 := rfl
    rw [e10, hm] at this
    refine ⟨by omega, ?_⟩
    unfold wdr
    rw [e10, hm]
    congr 1
  replace hm := Mr.hid hm
  have hw0 : ∀ j, 0 ≤ wdr c ws 10 j ∧ wdr c ws 10 j ≤ 18446744073709551615 := fun j => hw.in _
  have rdw : ∀ w' (j : Nat), Wds w' aw ws → j < ws.length → w'.cell? (aw.add j) = some (.int .u64 (wat ws j)) := fun w' j h hj => h.rd j _ (wat_some hj)
  have ewB : ∀ w', Below (W.heap.size + 1) (W.alloc (cfB c)) w' → w'.heap[W.heap.size]? = some (cfB c) := fun w' hB => (hB.block _ (by omega)).trans (heap_alloc_new W _)
  obtain ⟨N, hN⟩ : ∃ N, N = ws.length := ⟨_, rfl⟩
  rw [← hN]
  by_cases hu : wat ws 0 % 4294967296 ≤ 2147483647
  · have es : spr c ws = (rch (wdr c ws 10) false (n + 1) (List.replicate n false) (nxt (wat ws 0))).1 := by unfold spr; rw [if_pos hu, hn, Int.toNat_natCast]
    obtain ⟨R, hR0⟩ : ∃ R, R = (rch (wdr c ws 10) false (n + 1) (List.replicate n false) (nxt (wat ws 0))).1 := ⟨_, rfl⟩
    rw [es, ← hR0]
    have hge := nxt_ge (wat ws 0) hx.1
    have hq := r0 _ (hw.fr (S := fun _ => False) (Fr.of_below ((Below.refl W.heap.size W).alloc (Nat.le_refl _) (cfB c))) (fun e => e))
    have hq2 := r0 _ K0.wd
    have hmk := make_bools (W.alloc (cfB c)) n (by omega)
    have d : decide (wat ws 0 % 4294967296 ≤ 2147483647) = true := by simpa using hu
    rw [d] at H
    clear d hu hx es hw
    generalize wat ws 0 = x0 at *
    obtain ⟨y0, y1, y2, y3, y4, y5, y6, y7⟩ := cfB_cells (heap_alloc_new W (cfB c))
    have z5 := (cfB_cells K0.cf).2.2.2.2.2.1
    rw [made_bls] at hmk
    unfold cfB at y0 y1 y2 y3 y4 y5 y6 hq hq2 hmk z5
    unfold C7.val
    rw [hn] at hq hq2 hmk y5 z5
    simp only [hn] at BS ⊢
    have hnH := Mr.hid hn
    clear hn
    replace hR0 := Mr.hid hR0
    replace BS := Mr.hid BS
    replace H := Mr.hid H
    replace LI := Mr.hid LI
    replace K0 := Mr.hid K0
    replace h10 := Mr.hid h10
    replace hw0 := Mr.hid hw0
    replace rdw := Mr.hid rdw
    replace ewB := Mr.hid ewB
    replace r0 := Mr.hid r0
    replace hl := Mr.hid hl
    replace hd0 := Mr.hid hd0
    replace hok := Mr.hid hok
    go_enter Try.func17, Try.ntmps17
    go_wp2_with (first | (go_at_call 40; refine (H.out _).mono ?_; rintro e w' ⟨rfl, rfl⟩) | (go_at_call 27; refine (LI.out _).mono ?_; rintro e w' ⟨rfl, rfl⟩))
    clear y0 y1 y2 y3 y4 y5 y6 y7 z5 hq hq2 hmk H
    go_loopg [7, 8] (n + 1) (fun k s7 s8 wr => ∃ (l1 : List Int) (sn : List Bool) (s : Int), s8 = .int .i64 s ∧ -1 ≤ s ∧ Has wr (fun b => W.heap.size + 1 < b) 3 1 s7 l1.length (ints l1) ∧ Sp W wr c aw ws (W.heap.size + 1) sn ∧ sn.length = n ∧ sn.count false < k ∧ l1.length + k = n + 1 ∧ Option.map (fun l => l1 ++ l) (rch (wdr c ws 10) false k sn s).1 = R)
    case atStart =>
      refine ⟨[], List.replicate n false, nxt x0, rfl, hge, Has.nil _ _ _ _, ?_, by simp, ?_, by simp, by rw [hR0.out]; simp⟩
      · have := K0.out
        unfold cfB at this
        rw [hnH.out] at this
        exact this
      · have : (List.replicate n false).count false ≤ (List.replicate n false).length := List.count_le_length
        rw [List.length_replicate] at this
        omega
    case round =>
      obtain ⟨l1, sn, s, rfl, hs, hrow, hS, hsl, hcf, hk, hR⟩ := hrel
      clear hR0 K0 hge LI
      obtain ⟨q, rfl⟩ : ∃ q, gk = q + 1 := ⟨gk - 1, by omega⟩
      obtain ⟨y0, y1, y2, y3, y4, y5, y6, y7⟩ := hS.cells
      rw [hnH.out] at y5
      obtain ⟨pv, qv, rfl, hpq⟩ := hrow.form
      by_cases h0 : s < 0
      · rw [rch_end _ _ _ _ _ h0] at hR
        simp only [Option.map_some, List.append_nil] at hR
        subst hR
        have dd : decide (0 ≤ s) = false := decide_eq_false (by omega)
        replace hrow := Mr.hid hrow
        replace hS := Mr.hid hS
        clear hs hsl hcf hk
        go_wp2
        go_ret2
        exact ⟨_, rfl, hrow.out.mono (fun k hk => by omega), hS.out.bel⟩
      · obtain ⟨t, rfl⟩ := Int.eq_ofNat_of_zero_le (show 0 ≤ s by omega)
        have htt : ((t : Int)).toNat = t := by omega
        have dd : decide (0 ≤ (t : Int)) = true := by simp
        rw [rch, if_neg h0, htt] at hR
        by_cases hf : sn[t]? = some false
        · rw [if_pos hf] at hR
          have htn : t < n := by rw [← hsl]; exact (List.getElem?_eq_some_iff.1 hf).1
          obtain ⟨c0, f0⟩ := hS.seen hf
          obtain ⟨hj2, hj3⟩ := h10.out t htn
          have hj4 : m + t < N := by omega
          have hj5 : (m : Int) + (t : Int) < (N : Int) := by omega
          have hcp := count_put _ _ hf
          have hxw := hw0.out t
          have FT := fun W => fits10 (wdr c ws 10 t) W hxw.1 hxw.2
          have hge := nxt_ge (wdr c ws 10 t) hxw.1
          have LX := fun W => refLinkIndex (wdr c ws 10 t) W hxw.1 hxw.2
          rw [show wdr c ws 10 t % 4294967296 - 1 = nxt (wdr c ws 10 t) from rfl] at LX
          have d1 : decide ((n : Int) ≤ (t : Int)) = false := decide_eq_false (by omega)
          have hSp := hS.put t hawl
          have hrow2 : Has (wr.setCell ⟨W.heap.size + 1, t, none⟩ (.bool true)) (fun b => W.heap.size + 1 < b) 3 1 (.slice pv l1.length qv) l1.length (ints l1) := hrow.setCell _ _ (fun e => by have := (hrow.lt _ e).1; simp at this)
          have law := fun o : Obj => hrow2.alloc o
          have fin := fun (o : Obj) (w5 : World) (hgrow : ((wr.setCell ⟨W.heap.size + 1, t, none⟩ (.bool true)).alloc o).grownBy w5 (Value.slice pv l1.length qv).ownBlock) => (hSp.fr (S := fun k => W.heap.size + 1 < k) (((Fr.refl _ _).alloc o).grown hgrow (fun k hk => .inl (hrow2.lt k hk).1)) (fun k hk => ⟨by omega, by omega⟩) hawl)
          have hlt1 := (Array.getElem?_eq_some_iff.1 hS.row).1
          have hSs := fun o : Obj => (show W.heap.size + 1 < ((wr.setCell ⟨W.heap.size + 1, t, none⟩ (.bool true)).alloc o).heap.size by simp; omega)
          have hsz := (show (wr.setCell ⟨W.heap.size + 1, t, none⟩ (.bool true)).heap.size = wr.heap.size by simp)
          obtain ⟨z0, z1, z2, z3, z4, z5, z6, z7⟩ := hSp.cells
          have hslen : (sn.set t true).length = n := by simpa using hsl
          clear hrow hrow2 hS hf hxw hSp
          replace law := Mr.hid law
          replace fin := Mr.hid fin
          replace hSs := Mr.hid hSs
          replace LX := Mr.hid LX
          replace hsz := Mr.hid hsz
          replace hj3 := Mr.hid hj3
          by_cases ho : okl false (wdr c ws 10 t) = true
          · rw [if_pos ho] at hR
            have hR' : Option.map (fun l => (l1 ++ [(t : Int)]) ++ l) (rch (wdr c ws 10) false q (sn.set t true) (nxt (wdr c ws 10 t))).1 = R := by
              rw [← hR, Option.map_map]; congr 1; funext l; simp
            rw [ho] at FT
            clear hR ho
            replace FT := Mr.hid FT
            replace hR' := Mr.hid hR'
            generalize wdr c ws 10 t = x at *
            obtain ⟨i0, hi0, hz0, hz1, hz2⟩ := info_parts info_i
            go_wp2_with (first | (at_builtin; refine wpList_append_has _ rfl (.tmp 37) (.tmp 39) 26 rfl (fun b => W.heap.size + 1 < b) 3 i0 _ 1 8 Try.underlying26 hi0 hz0 hz1 hz2 rfl (.slice pv l1.length qv) l1.length (ints l1) rfl (law.out _) ⟨wr.heap.size, 0, none⟩ 1 1 [.int .i64 (t : Int)] rfl rfl (newsAt (wr.setCell ⟨W.heap.size + 1, t, none⟩ (.bool true)) _ #[.int .i64 (t : Int)] 3 _ hsz.out.symm rfl) (by simp [Value.oneCell']) (by omega) (by unfold maxLen; omega) (by omega) (hSs.out _) ?_; intro g5 cap5 w5 hown hgrow hat; have hS5 := fin.out _ w5 hgrow; clear fin hgrow law hSs hat; clear y0 y1 y2 y3 y4 y5 y6 y7; obtain ⟨y0, y1, y2, y3, y4, y5, y6, y7⟩ := hS5.cells; rw [hnH.out] at y5; replace hown := Mr.hid hown; replace hS5 := Mr.hid hS5) | (go_at_call 24; refine (BS.out _).mono ?_; clear BS; rintro e w6 ⟨rfl, hB6⟩; have hS6 := hS5.out.below hB6 hawl; have hr6 := hown.out.below hB6; have z1 := rdw.out w6 (m + t) hS6.wd hj2; clear hS5 hown hB6 y0 y1 y2 y3 y4 y5 y6 y7; obtain ⟨y0, y1, y2, y3, y4, y5, y6, y7⟩ := hS6.cells; rw [hnH.out] at y5; rw [hj3.out] at z1; replace hS6 := Mr.hid hS6; replace hr6 := Mr.hid hr6) | (go_at_call 41; refine (FT.out _).mono ?_; rintro e w7 ⟨rfl, rfl⟩) | (go_at_call 27; refine (LX.out _).mono ?_; rintro e w8 ⟨rfl, rfl⟩))
            go_roundg q
            case measure => omega
            case rel => exact ⟨l1 ++ [(t : Int)], sn.set t true, nxt x, rfl, hge, by simpa [ints] using hr6.out, hS6.out, hslen, by omega, by simp; omega, hR'.out⟩
          · rw [if_neg ho] at hR
            simp only [Option.map_none] at hR
            subst hR
            have ho' : okl false (wdr c ws 10 t) = false := by simpa using ho
            rw [ho'] at FT
            clear ho ho'
            replace FT := Mr.hid FT
            generalize wdr c ws 10 t = x at *
            obtain ⟨i0, hi0, hz0, hz1, hz2⟩ := info_parts info_i
            go_wp2_with (first | (at_builtin; refine wpList_append_has _ rfl (.tmp 37) (.tmp 39) 26 rfl (fun b => W.heap.size + 1 < b) 3 i0 _ 1 8 Try.underlying26 hi0 hz0 hz1 hz2 rfl (.slice pv l1.length qv) l1.length (ints l1) rfl (law.out _) ⟨wr.heap.size, 0, none⟩ 1 1 [.int .i64 (t : Int)] rfl rfl (newsAt (wr.setCell ⟨W.heap.size + 1, t, none⟩ (.bool true)) _ #[.int .i64 (t : Int)] 3 _ hsz.out.symm rfl) (by simp [Value.oneCell']) (by omega) (by unfold maxLen; omega) (by omega) (hSs.out _) ?_; intro g5 cap5 w5 hown hgrow hat; have hS5 := fin.out _ w5 hgrow; clear fin hgrow law hSs hat; clear y0 y1 y2 y3 y4 y5 y6 y7; obtain ⟨y0, y1, y2, y3, y4, y5, y6, y7⟩ := hS5.cells; rw [hnH.out] at y5; replace hown := Mr.hid hown; replace hS5 := Mr.hid hS5) | (go_at_call 24; refine (BS.out _).mono ?_; clear BS; rintro e w6 ⟨rfl, hB6⟩; have hS6 := hS5.out.below hB6 hawl; have hr6 := hown.out.below hB6; have z1 := rdw.out w6 (m + t) hS6.wd hj2; clear hS5 hown hB6 y0 y1 y2 y3 y4 y5 y6 y7; obtain ⟨y0, y1, y2, y3, y4, y5, y6, y7⟩ := hS6.cells; rw [hnH.out] at y5; rw [hj3.out] at z1; replace hS6 := Mr.hid hS6; replace hr6 := Mr.hid hr6) | (go_at_call 41; refine (FT.out _).mono ?_; rintro e w7 ⟨rfl, rfl⟩))
            go_ret2
            exact ⟨_, rfl, Has.nil _ _ _ _, hS6.out.bel⟩
        · rw [if_neg hf] at hR
          simp only [Option.map_none] at hR
          subst hR
          by_cases htn : t < n
          · obtain ⟨b, hb⟩ : ∃ b, sn[t]? = some b := ⟨_, List.getElem?_eq_getElem (by omega)⟩
            cases b with
            | false => exact absurd hb hf
            | true =>
              obtain ⟨c0, f0⟩ := hS.seen hb
              have d1 : decide ((n : Int) ≤ (t : Int)) = false := decide_eq_false (by omega)
              replace hrow := Mr.hid hrow
              replace hS := Mr.hid hS
              clear hs hcf hk hb hf htt
              go_wp2
              go_ret2
              exact ⟨_, rfl, Has.nil _ _ _ _, hS.out.bel⟩
          · have d1 : decide ((n : Int) ≤ (t : Int)) = true := decide_eq_true (by omega)
            replace hrow := Mr.hid hrow
            replace hS := Mr.hid hS
            clear hs hcf hk hf htt
            go_wp2
            go_ret2
            exact ⟨_, rfl, Has.nil _ _ _ _, hS.out.bel⟩
  · have es : spr c ws = none := by unfold spr; rw [if_neg hu]
    rw [es]
    have hq := r0 _ (hw.fr (S := fun _ => False) (Fr.of_below ((Below.refl W.heap.size W).alloc (Nat.le_refl _) (cfB c))) (fun e => e))
    have hB := (Below.refl W.heap.size W).alloc (Nat.le_refl _) (cfB c)
    have d : decide (wat ws 0 % 4294967296 ≤ 2147483647) = false := by simpa using hu
    rw [d] at H
    clear d hu hx es
    generalize wat ws 0 = x0 at *
    unfold C7.val
    unfold cfB at hq
    replace H := Mr.hid H
    replace hB := Mr.hid hB
    have hN0 : 0 < N := by omega
    clear BS LI h10 hw0 rdw ewB r0 K0 hw hok hn hl hN hn2
    go_enter Try.func17, Try.ntmps17
    go_wp2_with (first | (go_at_call 40; refine (H.out _).mono ?_; rintro e w' ⟨rfl, rfl⟩))
    go_ret2
    exact ⟨_, rfl, Has.nil _ _ _ _, hB.out⟩
end
end Go.Proofs.Ytdggempcfmihpaa.Pl
