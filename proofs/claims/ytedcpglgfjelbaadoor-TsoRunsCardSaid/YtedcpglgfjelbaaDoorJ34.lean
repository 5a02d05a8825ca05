import Derived.Test.YtedcpglgfjelbaaDoorJ32
import Derived.Test.YtedcpglgfjelbaaDoorJ33
import Derived.Test.YtedcpglgfjelbaaDoorJ22
/-
  TSO: the document's Run.
-/
namespace Go.Proofs.YtedcpglgfjelbaaDoor.Ts
open Go.RowKit Mr
set_option linter.unusedVariables false
set_option linter.unusedSimpArgs false
set_option maxRecDepth 100000
/-- What Run is asked. -/
structure Dq (w : World) (l : Lt) (ts : List Tn) (aw ah a : Option Addr) (nw nt n : Nat) : Prop where
  I : IsAt w aw nw l.ws
  T : ThAt w ah nt l.th
  S : TnAt w a n ts
  n1 : n ≤ 1000000000000000000
theorem Dq.below {w W : World} {l : Lt} {ts : List Tn} {aw ah a : Option Addr} {nw nt n : Nat} (h : Dq w l ts aw ah a nw nt n) (hB : Below w.heap.size w W) : Dq W l ts aw ah a nw nt n := ⟨h.I.below hB, h.T.below hB, h.S.below hB, h.n1⟩
/-- What Run answers. -/
def DunP (w w' : World) (x : Sv × Nat × Int) (e : Ending) : Prop := ∃ v, e = .returned (.tuple #[.agg v, .int .i64 (x.2.1 : Int), .int .i64 x.2.2]) ∧ SvAt w' v x.1 x.1.ws.length x.1.rg.length x.1.pl.length x.1.bf.length ∧ Below w.heap.size w w'
theorem fzo {W : World} {g j : Nat} {cs : Array Value} {T : TypeId} (h : W.heap[g]? = some (.cells cs T (0, 0))) : W.frozen? ⟨g, j, none⟩ = false := by unfold World.frozen?; rw [h]; rfl
def bxD (w : World) (aw ah : Option Addr) (nw cw nt ct : Nat) : World := (w.alloc (.cells #[.slice aw nw cw, .slice ah nt ct] 25)).alloc (.cells #[.slice none 0 0, .slice none 0 0, .slice none 0 0, .slice none 0 0] 32)
theorem bxD_below (w : World) (aw ah : Option Addr) (nw cw nt ct : Nat) : Below w.heap.size w (bxD w aw ah nw cw nt ct) := ((Below.refl _ _).alloc (Nat.le_refl _) _).alloc (by simp) _
theorem bxD_0 (w : World) (aw ah : Option Addr) (nw cw nt ct : Nat) : (bxD w aw ah nw cw nt ct).heap[w.heap.size]? = some (.cells #[.slice aw nw cw, .slice ah nt ct] 25 (0, 0)) := (Lib.alloc_old _ _ _ (by simp)).trans (new_at _ _ _ rfl)
theorem bxD_1 (w : World) (aw ah : Option Addr) (nw cw nt ct : Nat) : (bxD w aw ah nw cw nt ct).heap[w.heap.size + 1]? = some (.cells #[.slice none 0 0, .slice none 0 0, .slice none 0 0, .slice none 0 0] 32 (0, 0)) := new_at _ _ _ (by simp)
def emq4 (W : World) (r : Nat) : World := (((W.setCell ⟨r, 0, none⟩ (.slice none 0 0)).setCell ⟨r, 1, none⟩ (.slice none 0 0)).setCell ⟨r, 2, none⟩ (.slice none 0 0)).setCell ⟨r, 3, none⟩ (.slice none 0 0)
theorem emq4_below {w W : World} {r : Nat} (h : Below w.heap.size w W) (hr : w.heap.size ≤ r) : Below w.heap.size w (emq4 W r) := (((h.setCell (p := ⟨r, 0, none⟩) hr _).setCell (p := ⟨r, 1, none⟩) hr _).setCell (p := ⟨r, 2, none⟩) hr _).setCell (p := ⟨r, 3, none⟩) hr _
theorem Ds.high {W W' : World} {B : Nat} {G : Gs} {s : Sv} {nw nt : Nat} (h : Ds W B G s nw nt) (hK : ∀ k, B ≤ k → W'.heap[k]? = W.heap[k]?) : Ds W' B G s nw nt := by
  obtain ⟨o1, o2, o3, o4⟩ := h.ok
  obtain ⟨A1, a1, b1⟩ := h.h1
  obtain ⟨A2, a2, b2⟩ := h.h2
  obtain ⟨A3, a3, b3⟩ := h.h3
  obtain ⟨A4, a4, b4, d4⟩ := h.h4
  exact ⟨(hK _ o1.1).trans h.blk, ⟨A1, (hK _ o1.2.1).trans a1, b1⟩, ⟨A2, (hK _ o1.2.2.1).trans a2, b2⟩, ⟨A3, (hK _ o1.2.2.2.1).trans a3, b3⟩, ⟨A4, (hK _ o1.2.2.2.2).trans a4, fun t b hb => by
    obtain ⟨v, hv, hH⟩ := b4 t b hb
    exact ⟨v, hv, hH.kept (fun k hk => hK k (hH.lt k hk).1.1) (fun k hk => (hH.lt k hk).1)⟩, d4⟩, h.len, h.ok⟩
theorem Bg.ds {w w' : World} {l : Lt} {nw nt g1 g2 g3 g4 c1 : Nat} (h : Bg w w' l nw nt g1 g2 g3 g4 c1) (hw : nw = l.ws.length) (ht : nt = l.th.length) : Ds (w'.alloc (.cells #[.slice (some ⟨g1, 0, none⟩) nw c1, .slice (some ⟨g2, 0, none⟩) nt nt, .slice (some ⟨g3, 0, none⟩) nt nt, .slice (some ⟨g4, 0, none⟩) nt nt] 32)) w.heap.size ⟨w'.heap.size, g1, g2, g3, g4, c1, nt, nt, nt⟩ (begS l) nw nt := by
  obtain ⟨A, a, b⟩ := h.h1
  have bk : ∀ {k : Nat} {o : Obj}, w'.heap[k]? = some o → (w'.alloc (.cells #[.slice (some ⟨g1, 0, none⟩) nw c1, .slice (some ⟨g2, 0, none⟩) nt nt, .slice (some ⟨g3, 0, none⟩) nt nt, .slice (some ⟨g4, 0, none⟩) nt nt] 32)).heap[k]? = some o := fun e => (Lib.alloc_old _ _ _ (Array.getElem?_eq_some_iff.1 e).1).trans e
  have l1 := (Array.getElem?_eq_some_iff.1 a).1
  have l2 := (Array.getElem?_eq_some_iff.1 h.h2).1
  have l3 := (Array.getElem?_eq_some_iff.1 h.h3).1
  have l4 := (Array.getElem?_eq_some_iff.1 h.h4).1
  have hle := h.le
  have hne := h.ne
  have hz := h.B.size
  refine ⟨new_at _ _ _ rfl, ⟨A, bk a, b⟩, ⟨_, bk h.h2, fun t r hr k hk => ?_⟩, ⟨_, bk h.h3, fun j x hx => ?_⟩, ⟨_, bk h.h4, fun t b hb => ?_, fun t t' v v' k h1 h2 h3 hv hv' hk => ?_⟩, ⟨hw.symm, by simp [begS, ht], by simp [begS, ht], by simp [begS, ht]⟩, ⟨by dsimp only; omega, by dsimp only; omega, by dsimp only; omega, by dsimp only; omega⟩⟩
  · simp only [begS, List.getElem?_replicate] at hr
    split at hr
    · cases hr
      rw [mkR_get _ _ (by omega)]
      rcases k with _ | _ | _ | _ | k
      all_goals first | rfl | omega
    · cases hr
  · simp only [begS, List.getElem?_replicate] at hx
    split at hx
    · cases hx; exact mkI_get _ _ (by omega)
    · cases hx
  · simp only [begS, List.getElem?_replicate] at hb
    split at hb
    · cases hb; exact ⟨_, mkB_get _ _ (by omega), Has.nil _ _ _ _⟩
    · cases hb
  · rw [mkB_get _ _ h1] at hv; cases hv; simp [Value.ownBlock] at hk
set_option maxHeartbeats 8000000 in
theorem rRun_chk (l : Lt) (o : Int) (ts : List Tn) (aw ah a : Option Addr) (nw cw nt ct n c : Nat) (w : World) (h : Dq w l ts aw ah a nw nt n) (hc : chkB l = false) :
    Calls Tryd.prog 7 #[.agg #[.slice aw nw cw, .slice ah nt ct], .int .i64 o, .slice a n c] w fun e w' => DunP w w' (runR l o ts) e := by
  have B0 := bxD_below w aw ah nw cw nt ct
  have b0 := bxD_0 w aw ah nw cw nt ct
  have b1 := bxD_1 w aw ah nw cw nt ct
  have h1 := h.below B0
  have CK := Mr.hid (rCheck_any l aw nw cw ah nt ct _ h1.I.1 h1.T)
  have c0 := cell_blk b0 0
  have c1 := cell_blk b0 1
  rw [hc] at CK
  have hfin : Hid (∀ W, Below w.heap.size w W → DunP w W (runR l o ts) (.returned (.tuple #[.agg #[.slice none 0 0, .slice none 0 0, .slice none 0 0, .slice none 0 0], .int .i64 0, .int .i64 190]))) := fun W hW => by
    unfold runR; rw [if_pos hc]; exact ⟨_, rfl, SvAt.nil W, hW⟩
  replace B0 := Mr.hid B0
  clear h h1 b0
  unfold bxD at *
  go_enter Tryd.func7, Tryd.ntmps7
  go_wp2_with (go_at_call 13; refine CK.out.mono ?_; clear CK; rintro e w2 ⟨rfl, B2⟩; have d1 := (B2.block _ (Array.getElem?_eq_some_iff.1 b1).1).trans b1; have y0 := cell_blk d1 0; have y1 := cell_blk d1 1; have y2 := cell_blk d1 2; have y3 := cell_blk d1 3; have ly := (Array.getElem?_eq_some_iff.1 d1).1; have fy : ∀ k, w2.frozen? ⟨w.heap.size + 1, k, none⟩ = false := fun k => fzo d1; have BB : Hid (Below w.heap.size w w2) := B0.out.trans (B2.mono B0.out.size); clear B2 b1 d1)
  have BE := Mr.hid (emq4_below BB.out (show w.heap.size ≤ w.heap.size + 1 by omega))
  refine bodyPost_ret (v := .tuple #[.agg #[.slice none 0 0, .slice none 0 0, .slice none 0 0, .slice none 0 0], .int .i64 0, .int .i64 190]) (by simp [results, Tryd.results7, go_sem, *]) rfl (hfin.out _ BE.out)
set_option maxHeartbeats 8000000 in
theorem rRun_long (l : Lt) (o : Int) (ts : List Tn) (aw ah a : Option Addr) (nw cw nt ct n c : Nat) (w : World) (h : Dq w l ts aw ah a nw nt n) (hc : chkB l = true) (hn : 4096 < ts.length) :
    Calls Tryd.prog 7 #[.agg #[.slice aw nw cw, .slice ah nt ct], .int .i64 o, .slice a n c] w fun e w' => DunP w w' (runR l o ts) e := by
  have B0 := bxD_below w aw ah nw cw nt ct
  have b0 := bxD_0 w aw ah nw cw nt ct
  have b1 := bxD_1 w aw ah nw cw nt ct
  have h1 := h.below B0
  have CK := Mr.hid (rCheck_any l aw nw cw ah nt ct _ h1.I.1 h1.T)
  have c0 := cell_blk b0 0
  have c1 := cell_blk b0 1
  rw [hc] at CK
  have hnI : (4096 : Int) < (n : Int) := by have := h.S.1; omega
  have dn : decide ((4096 : Int) < (n : Int)) = true := decide_eq_true hnI
  have hfin : Hid (∀ W, Below w.heap.size w W → DunP w W (runR l o ts) (.returned (.tuple #[.agg #[.slice none 0 0, .slice none 0 0, .slice none 0 0, .slice none 0 0], .int .i64 0, .int .i64 3]))) := fun W hW => by
    unfold runR; rw [if_neg (by rw [hc]; simp), if_pos hn]; exact ⟨_, rfl, SvAt.nil W, hW⟩
  replace B0 := Mr.hid B0
  clear h h1 b0
  unfold bxD at *
  go_enter Tryd.func7, Tryd.ntmps7
  go_wp2_with (go_at_call 13; refine CK.out.mono ?_; clear CK; rintro e w2 ⟨rfl, B2⟩; have d1 := (B2.block _ (Array.getElem?_eq_some_iff.1 b1).1).trans b1; have y0 := cell_blk d1 0; have y1 := cell_blk d1 1; have y2 := cell_blk d1 2; have y3 := cell_blk d1 3; have ly := (Array.getElem?_eq_some_iff.1 d1).1; have fy : ∀ k, w2.frozen? ⟨w.heap.size + 1, k, none⟩ = false := fun k => fzo d1; have BB : Hid (Below w.heap.size w w2) := B0.out.trans (B2.mono B0.out.size); clear B2 b1 d1)
  have BE := Mr.hid (emq4_below BB.out (show w.heap.size ≤ w.heap.size + 1 by omega))
  refine bodyPost_ret (v := .tuple #[.agg #[.slice none 0 0, .slice none 0 0, .slice none 0 0, .slice none 0 0], .int .i64 0, .int .i64 3]) (by simp [results, Tryd.results7, go_sem, *]) rfl (hfin.out _ BE.out)
set_option maxHeartbeats 8000000 in
theorem rRun_ord (l : Lt) (o : Int) (ts : List Tn) (aw ah a : Option Addr) (nw cw nt ct n c : Nat) (w : World) (h : Dq w l ts aw ah a nw nt n) (hc : chkB l = true) (hn : ¬ 4096 < ts.length) (ho : ordB o = false) :
    Calls Tryd.prog 7 #[.agg #[.slice aw nw cw, .slice ah nt ct], .int .i64 o, .slice a n c] w fun e w' => DunP w w' (runR l o ts) e := by
  have B0 := bxD_below w aw ah nw cw nt ct
  have b0 := bxD_0 w aw ah nw cw nt ct
  have b1 := bxD_1 w aw ah nw cw nt ct
  have h1 := h.below B0
  have CK := Mr.hid (rCheck_any l aw nw cw ah nt ct _ h1.I.1 h1.T)
  have OR := Mr.hid (fun W => rIsOrder_any o W)
  rw [ho] at OR
  have c0 := cell_blk b0 0
  have c1 := cell_blk b0 1
  rw [hc] at CK
  have hnI : ¬ (4096 : Int) < (n : Int) := by have := h.S.1; omega
  have dn : decide ((4096 : Int) < (n : Int)) = false := decide_eq_false hnI
  have hfin : Hid (∀ W, Below w.heap.size w W → DunP w W (runR l o ts) (.returned (.tuple #[.agg #[.slice none 0 0, .slice none 0 0, .slice none 0 0, .slice none 0 0], .int .i64 0, .int .i64 191]))) := fun W hW => by
    unfold runR; rw [if_neg (by rw [hc]; simp), if_neg hn, if_pos ho]; exact ⟨_, rfl, SvAt.nil W, hW⟩
  replace B0 := Mr.hid B0
  clear h h1 b0
  unfold bxD at *
  go_enter Tryd.func7, Tryd.ntmps7
  go_wp2_with (first | (go_at_call 13; refine CK.out.mono ?_; clear CK; rintro e w2 ⟨rfl, B2⟩; have d1 := (B2.block _ (Array.getElem?_eq_some_iff.1 b1).1).trans b1; have y0 := cell_blk d1 0; have y1 := cell_blk d1 1; have y2 := cell_blk d1 2; have y3 := cell_blk d1 3; have ly := (Array.getElem?_eq_some_iff.1 d1).1; have fy : ∀ k, w2.frozen? ⟨w.heap.size + 1, k, none⟩ = false := fun k => fzo d1; have BB : Hid (Below w.heap.size w w2) := B0.out.trans (B2.mono B0.out.size); clear B2 b1 d1) | (go_at_call 18; refine (OR.out _).mono ?_; clear OR; rintro e w9 ⟨rfl, hw9⟩; obtain rfl := hw9.symm))
  have BE := Mr.hid (emq4_below BB.out (show w.heap.size ≤ w.heap.size + 1 by omega))
  refine bodyPost_ret (v := .tuple #[.agg #[.slice none 0 0, .slice none 0 0, .slice none 0 0, .slice none 0 0], .int .i64 0, .int .i64 191]) (by simp [results, Tryd.results7, go_sem, *]) rfl (hfin.out _ BE.out)
set_option maxHeartbeats 16000000 in
theorem rRun_ok (l : Lt) (o : Int) (ts : List Tn) (aw ah a : Option Addr) (nw cw nt ct n c : Nat) (w : World) (h : Dq w l ts aw ah a nw nt n) (hc : chkB l = true) (hn : ¬ 4096 < ts.length) (ho : ordB o = true) :
    Calls Tryd.prog 7 #[.agg #[.slice aw nw cw, .slice ah nt ct], .int .i64 o, .slice a n c] w fun e w' => DunP w w' (runR l o ts) e := by
  have B0 := bxD_below w aw ah nw cw nt ct
  have b0 := bxD_0 w aw ah nw cw nt ct
  have b1 := bxD_1 w aw ah nw cw nt ct
  have h1 := h.below B0
  have CK := Mr.hid (rCheck_any l aw nw cw ah nt ct _ h1.I.1 h1.T)
  have OR := Mr.hid (fun W => rIsOrder_any o W)
  rw [ho] at OR
  have c0 := cell_blk b0 0
  have c1 := cell_blk b0 1
  rw [hc] at CK
  have hnI : ¬ (4096 : Int) < (n : Int) := by have := h.S.1; omega
  have dn : decide ((4096 : Int) < (n : Int)) = false := decide_eq_false hnI
  have hlen := chk_len hc
  have hl1 := h.I.1
  have hl2 := h.T.1
  have hl3 := h.S.1
  have BE : Hid (∀ W, Below w.heap.size w W → Calls Tryd.prog 15 #[.agg #[.slice aw nw cw, .slice ah nt ct]] W fun e w' => ∃ g1 g2 g3 g4 c1, e = .returned (.agg #[.slice (some ⟨g1, 0, none⟩) nw c1, .slice (some ⟨g2, 0, none⟩) nt nt, .slice (some ⟨g3, 0, none⟩) nt nt, .slice (some ⟨g4, 0, none⟩) nt nt]) ∧ Bg W w' l nw nt g1 g2 g3 g4 c1) := fun W hW => rBegin_any l aw ah nw cw nt ct W (h.I.below hW) (by omega) (by omega) (by omega)
  have TU : Hid (∀ (B k : Nat) (G : Gs) (t : Tn) (W : World), Ds W B G (goS l o (begS l, 0) (ts.take k)).1 nw nt → w.heap.size ≤ B → B ≤ W.heap.size → Below w.heap.size w W → Calls Tryd.prog 20 #[.agg #[.slice aw nw cw, .slice ah nt ct], .int .i64 o, .pointer (some ⟨G.p, 0, none⟩), tnV t] W fun e w' => e = .returned (.bool (act l o (goS l o (begS l, 0) (ts.take k)).1 t).isSome) ∧ Ds w' B G (trn l o (goS l o (begS l, 0) (ts.take k)).1 t) nw nt ∧ Below B W w') := fun B k G t W hD h1 h2 hW => rturn_any l _ o B G aw ah nw cw nt ct t w W hc (goS_wg hc _) ho hD hl1 h.T h1 h2 hW
  have hsn : Hid (∀ (k : Nat) (t : Tn), ts[k]? = some t → goS l o (begS l, 0) (ts.take (k + 1)) = (trn l o (goS l o (begS l, 0) (ts.take k)).1 t, if (act l o (goS l o (begS l, 0) (ts.take k)).1 t).isSome then (goS l o (begS l, 0) (ts.take k)).2 + 1 else (goS l o (begS l, 0) (ts.take k)).2)) := fun k t hk => by rw [take_succ_of hk]; exact goS_snoc l o _ _ t
  have hcn : Hid (∀ k, k ≤ 4096 → (goS l o (begS l, 0) (ts.take k)).2 ≤ 4096) := fun k hk => by
    have h1 := goS_le l o (ts.take k) (begS l, 0)
    have h2 : (ts.take k).length ≤ k := List.length_take_le _ _
    dsimp only at h1; omega
  have hrR : Hid (runR l o ts = ((goS l o (begS l, 0) ts).1, (goS l o (begS l, 0) ts).2, 0)) := by
    show _ = _
    unfold runR; rw [if_neg (by rw [hc]; simp), if_neg hn, if_neg (by rw [ho]; simp)]
  have hgl : Hid ((goS l o (begS l, 0) ts).1.ws.length = nw ∧ (goS l o (begS l, 0) ts).1.rg.length = nt ∧ (goS l o (begS l, 0) ts).1.pl.length = nt ∧ (goS l o (begS l, 0) ts).1.bf.length = nt) := by
    have hg := goS_wg (o := o) hc ts
    exact ⟨by rw [hg.sh.w]; omega, by rw [hg.sh.r]; omega, by rw [hg.sh.p]; omega, by rw [hg.sh.b]; omega⟩
  have hSt := Mr.hid h.S
  replace B0 := Mr.hid B0
  replace hl1 := Mr.hid hl1
  replace hl2 := Mr.hid hl2
  replace hl3 := Mr.hid hl3
  clear h h1 hn ho hc hlen
  unfold bxD at *
  go_enter Tryd.func7, Tryd.ntmps7
  go_upto_region 8 with (first | (go_at_call 13; refine CK.out.mono ?_; clear CK; rintro e w2 ⟨rfl, B2⟩; have d0 := (B2.block _ (Array.getElem?_eq_some_iff.1 b0).1).trans b0; have d1 := (B2.block _ (Array.getElem?_eq_some_iff.1 b1).1).trans b1; have k0 := cell_blk d0 0; have k1 := cell_blk d0 1; have BB : Hid (Below w.heap.size w w2) := B0.out.trans (B2.mono B0.out.size); replace d0 := Mr.hid d0; replace d1 := Mr.hid d1; clear B2) | (go_at_call 18; refine (OR.out _).mono ?_; clear OR; rintro e w9 ⟨rfl, hw9⟩; obtain rfl := hw9.symm) | (go_at_call 15; refine (BE.out _ BB.out).mono ?_; clear BE; rintro e w3 ⟨g1, g2, g3, g4, cc, rfl, hbg⟩; replace hbg := Mr.hid hbg))
  have D4 := hbg.out.ds hl1.out hl2.out
  have B4 : Below w2.heap.size w2 (w3.alloc (.cells #[.slice (some ⟨g1, 0, none⟩) nw cc, .slice (some ⟨g2, 0, none⟩) nt nt, .slice (some ⟨g3, 0, none⟩) nt nt, .slice (some ⟨g4, 0, none⟩) nt nt] 32)) := hbg.out.B.alloc hbg.out.B.size _
  obtain ⟨G, hG⟩ : ∃ G : Gs, G = ⟨w3.heap.size, g1, g2, g3, g4, cc, nt, nt, nt⟩ := ⟨_, rfl⟩
  have hGp : w3.heap.size = G.p := by rw [hG]
  rw [← hG] at D4
  rw [hGp]
  have z4 : w2.heap.size ≤ (w3.alloc (.cells #[.slice (some ⟨g1, 0, none⟩) nw cc, .slice (some ⟨g2, 0, none⟩) nt nt, .slice (some ⟨g3, 0, none⟩) nt nt, .slice (some ⟨g4, 0, none⟩) nt nt] 32)).heap.size := B4.size
  clear hbg k0 k1 hG hGp
  generalize (w3.alloc (.cells #[.slice (some ⟨g1, 0, none⟩) nw cc, .slice (some ⟨g2, 0, none⟩) nt nt, .slice (some ⟨g3, 0, none⟩) nt nt, .slice (some ⟨g4, 0, none⟩) nt nt] 32)) = w4 at *
  go_upto_region 10 with fail
  go_loopg [10, 11] n (fun gk s10 s11 wr => ∃ k : Nat, s11 = .int .i64 (k : Int) ∧ s10 = .int .i64 ((goS l o (begS l, 0) (ts.take k)).2 : Int) ∧ k + gk = n ∧ Ds wr w2.heap.size G (goS l o (begS l, 0) (ts.take k)).1 nw nt ∧ Below w2.heap.size w2 wr)
  case atStart => exact ⟨0, rfl, rfl, by omega, D4, B4⟩
  case round =>
    obtain ⟨k, rfl, rfl, hk, hD, hB⟩ := hrel
    clear D4 B4
    have hBw : Below w.heap.size w wr := BB.out.trans (hB.mono BB.out.size)
    have e0 := (hB.block _ (Array.getElem?_eq_some_iff.1 d0.out).1).trans d0.out
    have e1 := (hB.block _ (Array.getElem?_eq_some_iff.1 d1.out).1).trans d1.out
    have k0 := cell_blk e0 0
    have k1 := cell_blk e0 1
    have lx := (Array.getElem?_eq_some_iff.1 e0).1
    by_cases hlt : k < n
    · have dk : decide ((k : Int) < (n : Int)) = true := decide_eq_true (by omega)
      have kI : (k : Int) < (n : Int) := by omega
      have hwk : IntKind.i64.wrap ((k : Int) + 1) = (k : Int) + 1 := i64x _ (by omega) (by omega)
      obtain ⟨t, ht⟩ : ∃ t, ts[k]? = some t := ⟨_, List.getElem?_eq_getElem (by have := hl3.out; omega)⟩
      obtain ⟨b5, q5, rfl, lb5, hc5⟩ := hSt.out.2.resolve_left (by intro e; rw [e] at ht; simp at ht)
      obtain ⟨u0, u1, u2⟩ := hc5 k t ht
      replace u0 := (hBw.cell (p := ⟨b5, q5 + k * 3, none⟩) lb5).trans u0
      replace u1 := (hBw.cell (p := ⟨b5, q5 + k * 3 + 1, none⟩) lb5).trans u1
      replace u2 := (hBw.cell (p := ⟨b5, q5 + k * 3 + 2, none⟩) lb5).trans u2
      have hcb := hcn.out k (by omega)
      have hs := hsn.out k t ht
      have hwc : IntKind.i64.wrap (((goS l o (begS l, 0) (ts.take k)).2 : Int) + 1) = ((goS l o (begS l, 0) (ts.take k)).2 : Int) + 1 := i64x _ (by omega) (by omega)
      have T1 := Mr.hid (TU.out w2.heap.size k G t wr.drew (hD.below (Below.refl _ _).drew) BB.out.size hB.size hBw.drew)
      have F1 : Hid (∀ w', Below w2.heap.size wr.drew w' → Below w2.heap.size w2 w') := fun w' hw => hB.drew.trans hw
      have lb2 : b5 < w2.heap.size := Nat.lt_of_lt_of_le lb5 BB.out.size
      have lx2 : w.heap.size < w2.heap.size := (Array.getElem?_eq_some_iff.1 d0.out).1
      unfold tnV at T1
      obtain ⟨tth, tou, tad⟩ := t
      dsimp only at u0 u1 u2 T1 hs
      replace hs := Mr.hid hs
      replace hk := Mr.hid hk
      clear hD hB e0 e1 hc5 ht hBw hcb
      generalize hga : act l o (goS l o (begS l, 0) (List.take k ts)).1 ⟨tth, tou, tad⟩ = res at *
      generalize hgc : (goS l o (begS l, 0) (List.take k ts)).2 = cnt at *
      replace hga := Mr.hid hga
      replace hgc := Mr.hid hgc
      cases hb : res.isSome with
      | true =>
        rw [hb] at T1
        have hs2 : Hid (goS l o (begS l, 0) (List.take (k + 1) ts) = (trn l o (goS l o (begS l, 0) (List.take k ts)).1 ⟨tth, tou, tad⟩, cnt + 1)) := by have h9 := hs.out; rw [hb] at h9; exact h9
        replace hb := Mr.hid hb
        clear hs
        go_upto_region 12 with fail
        go_region_held3 (fun W => W.cell? ⟨w.heap.size, 0, none⟩ = some (.slice aw nw cw) ∧ W.cell? ⟨w.heap.size, 1, none⟩ = some (.slice ah nt ct) ∧ W.cell? ⟨b5, q5 + k * 3, none⟩ = some (.int .i64 tth) ∧ W.cell? ⟨b5, q5 + k * 3 + 1, none⟩ = some (.bool tou) ∧ W.cell? ⟨b5, q5 + k * 3 + 2, none⟩ = some (.int .i64 tad)) (simp [*, go_sem])
          (first | (go_at_call 20; refine T1.out.mono ?_; clear T1; rintro e w9 ⟨rfl, D1, D2⟩; have a0 := (D2.cell (p := ⟨w.heap.size, 0, none⟩) lx2).trans k0; have a1 := (D2.cell (p := ⟨w.heap.size, 1, none⟩) lx2).trans k1; have v0 := (D2.cell (p := ⟨b5, q5 + k * 3, none⟩) lb2).trans u0; have v1 := (D2.cell (p := ⟨b5, q5 + k * 3 + 1, none⟩) lb2).trans u1; have v2 := (D2.cell (p := ⟨b5, q5 + k * 3 + 2, none⟩) lb2).trans u2; replace D1 := Mr.hid D1; replace D2 := Mr.hid (F1.out _ D2)))
        go_wp2
        go_roundg (gk - 1)
        case measure => have := hk.out; omega
        case rel => exact ⟨k + 1, by simp, by rw [hs2.out]; simp, by have := hk.out; omega, by rw [hs2.out]; exact D1.out, D2.out⟩
      | false =>
        rw [hb] at T1
        have hs2 : Hid (goS l o (begS l, 0) (List.take (k + 1) ts) = (trn l o (goS l o (begS l, 0) (List.take k ts)).1 ⟨tth, tou, tad⟩, cnt)) := by have h9 := hs.out; rw [hb] at h9; exact h9
        replace hb := Mr.hid hb
        clear hs
        go_upto_region 12 with fail
        go_region_held3 (fun W => W.cell? ⟨w.heap.size, 0, none⟩ = some (.slice aw nw cw) ∧ W.cell? ⟨w.heap.size, 1, none⟩ = some (.slice ah nt ct) ∧ W.cell? ⟨b5, q5 + k * 3, none⟩ = some (.int .i64 tth) ∧ W.cell? ⟨b5, q5 + k * 3 + 1, none⟩ = some (.bool tou) ∧ W.cell? ⟨b5, q5 + k * 3 + 2, none⟩ = some (.int .i64 tad)) (simp [*, go_sem])
          (first | (go_at_call 20; refine T1.out.mono ?_; clear T1; rintro e w9 ⟨rfl, D1, D2⟩; have a0 := (D2.cell (p := ⟨w.heap.size, 0, none⟩) lx2).trans k0; have a1 := (D2.cell (p := ⟨w.heap.size, 1, none⟩) lx2).trans k1; have v0 := (D2.cell (p := ⟨b5, q5 + k * 3, none⟩) lb2).trans u0; have v1 := (D2.cell (p := ⟨b5, q5 + k * 3 + 1, none⟩) lb2).trans u1; have v2 := (D2.cell (p := ⟨b5, q5 + k * 3 + 2, none⟩) lb2).trans u2; replace D1 := Mr.hid D1; replace D2 := Mr.hid (F1.out _ D2)))
        go_wp2
        go_roundg (gk - 1)
        case measure => have := hk.out; omega
        case rel => exact ⟨k + 1, by simp, by rw [hs2.out], by have := hk.out; omega, by rw [hs2.out]; exact D1.out, D2.out⟩
    · obtain rfl : k = n := by omega
      have dk : decide ((k : Int) < (k : Int)) = false := decide_eq_false (by omega)
      have dk2 : ¬ (k : Int) < (k : Int) := by omega
      have htk : ts.take k = ts := List.take_of_length_le (by have := hl3.out; omega)
      rw [htk] at hD ⊢
      have r0 := hD.c0
      have r1 := hD.c1
      have r2 := hD.c2
      have r3 := hD.c3
      have lp := hD.lts.1
      have y0 := cell_blk e1 0
      have y1 := cell_blk e1 1
      have y2 := cell_blk e1 2
      have y3 := cell_blk e1 3
      have ly := (Array.getElem?_eq_some_iff.1 e1).1
      have fy : ∀ j, wr.frozen? ⟨w.heap.size + 1, j, none⟩ = false := fun j => fzo e1
      have lr2 : w.heap.size + 1 < w2.heap.size := (Array.getElem?_eq_some_iff.1 d1.out).1
      have np : ¬ G.p = w.heap.size + 1 := by have := hD.ok.le; omega
      have np2 : ¬ w.heap.size + 1 = G.p := by omega
      have hfin : Hid (DunP w ((((wr.setCell ⟨w.heap.size + 1, 0, none⟩ (.slice (some ⟨G.g1, 0, none⟩) nw G.c1)).setCell ⟨w.heap.size + 1, 1, none⟩ (.slice (some ⟨G.g2, 0, none⟩) nt G.c2)).setCell ⟨w.heap.size + 1, 2, none⟩ (.slice (some ⟨G.g3, 0, none⟩) nt G.c3)).setCell ⟨w.heap.size + 1, 3, none⟩ (.slice (some ⟨G.g4, 0, none⟩) nt G.c4)) (runR l o ts) (.returned (.tuple #[.agg #[.slice (some ⟨G.g1, 0, none⟩) nw G.c1, .slice (some ⟨G.g2, 0, none⟩) nt G.c2, .slice (some ⟨G.g3, 0, none⟩) nt G.c3, .slice (some ⟨G.g4, 0, none⟩) nt G.c4], .int .i64 ((goS l o (begS l, 0) ts).2 : Int), .int .i64 0]))) := by
        have hDF : Ds ((((wr.setCell ⟨w.heap.size + 1, 0, none⟩ (.slice (some ⟨G.g1, 0, none⟩) nw G.c1)).setCell ⟨w.heap.size + 1, 1, none⟩ (.slice (some ⟨G.g2, 0, none⟩) nt G.c2)).setCell ⟨w.heap.size + 1, 2, none⟩ (.slice (some ⟨G.g3, 0, none⟩) nt G.c3)).setCell ⟨w.heap.size + 1, 3, none⟩ (.slice (some ⟨G.g4, 0, none⟩) nt G.c4)) w2.heap.size G (goS l o (begS l, 0) ts).1 nw nt := hD.high (fun j hj => by
          have hj' : j ≠ w.heap.size + 1 := by omega
          exact (Below.heap_setCell _ _ _ _ hj').trans ((Below.heap_setCell _ _ _ _ hj').trans ((Below.heap_setCell _ _ _ _ hj').trans (Below.heap_setCell _ _ _ _ hj'))))
        have hq : w.heap.size ≤ w.heap.size + 1 := by omega
        obtain ⟨z1, z2, z3, z4⟩ := hgl.out
        have h9 := hrR.out
        show DunP w _ (runR l o ts) _
        rw [h9]
        refine ⟨_, rfl, ?_, (((hBw.setCell (p := ⟨w.heap.size + 1, 0, none⟩) hq _).setCell (p := ⟨w.heap.size + 1, 1, none⟩) hq _).setCell (p := ⟨w.heap.size + 1, 2, none⟩) hq _).setCell (p := ⟨w.heap.size + 1, 3, none⟩) hq _⟩
        dsimp only
        rw [z1, z2, z3, z4]
        exact hDF.sv
      clear hD hB e0 e1 hk hlt hBw htk hgl hrR
      go_wp2
      refine bodyPost_ret (v := .tuple #[.agg #[.slice (some ⟨G.g1, 0, none⟩) nw G.c1, .slice (some ⟨G.g2, 0, none⟩) nt G.c2, .slice (some ⟨G.g3, 0, none⟩) nt G.c3, .slice (some ⟨G.g4, 0, none⟩) nt G.c4], .int .i64 ((goS l o (begS l, 0) ts).2 : Int), .int .i64 0]) (by simp [results, Tryd.results7, go_sem, *]) rfl hfin.out
theorem rRun_any (l : Lt) (o : Int) (ts : List Tn) (aw ah a : Option Addr) (nw cw nt ct n c : Nat) (w : World) (h : Dq w l ts aw ah a nw nt n) :
    Calls Tryd.prog 7 #[.agg #[.slice aw nw cw, .slice ah nt ct], .int .i64 o, .slice a n c] w fun e w' => DunP w w' (runR l o ts) e := by
  cases hc : chkB l with
  | false => exact rRun_chk l o ts aw ah a nw cw nt ct n c w h hc
  | true =>
    by_cases hn : 4096 < ts.length
    · exact rRun_long l o ts aw ah a nw cw nt ct n c w h hc hn
    · cases ho : ordB o with
      | false => exact rRun_ord l o ts aw ah a nw cw nt ct n c w h hc hn ho
      | true => exact rRun_ok l o ts aw ah a nw cw nt ct n c w h hc hn ho
end Go.Proofs.YtedcpglgfjelbaaDoor.Ts
/-
  TSO: the law of runs.
-/
namespace Go.Proofs.YtedcpglgfjelbaaDoor.Ts
open Go.RowKit Mr
set_option linter.unusedVariables false
set_option linter.unusedSimpArgs false
set_option maxRecDepth 100000
theorem SvAt.below {W W' : World} {v : Array Value} {s : Sv} {nw nr np nb : Nat} (h : SvAt W v s nw nr np nb) (hB : Below W.heap.size W W') : SvAt W' v s nw nr np nb := by
  obtain ⟨a1, c1, a2, c2, a3, c3, a4, c4, e, i1, i2, i3, i4⟩ := h.ex
  exact ⟨a1, c1, a2, c2, a3, c3, a4, c4, e, i1.below hB, i2.below hB, i3.below hB, i4.below hB⟩
theorem info_t : ∃ i, Tryd.prog.info? 44 = some i ∧ i.zero = some (.agg #[.int .i64 0, .bool false, .int .i64 0]) ∧ i.size = 3 ∧ i.bytes = 24 := info_of (by kernel_rfl)
def tnsV (c : List Tn) : List Value := c.flatMap fun t => [.int .i64 t.th, .bool t.ou, .int .i64 t.ad]
theorem tnsV_len (c : List Tn) : (tnsV c).length = c.length * 3 := by
  induction c with
  | nil => rfl
  | cons i c ih => simp only [tnsV, List.flatMap_cons, List.length_append, List.length_cons, List.length_nil] at ih ⊢; omega
theorem tnsV_one (c : List Tn) : ∀ u ∈ tnsV c, u.oneCell' = true := by
  intro u hu
  simp only [tnsV, List.mem_flatMap, List.mem_cons, List.not_mem_nil, or_false] at hu
  obtain ⟨i, -, rfl | rfl | rfl⟩ := hu <;> rfl
theorem tnsV_get : ∀ (c : List Tn) (j : Nat) (t : Tn), c[j]? = some t → (tnsV c)[j * 3]? = some (.int .i64 t.th) ∧ (tnsV c)[j * 3 + 1]? = some (.bool t.ou) ∧ (tnsV c)[j * 3 + 2]? = some (.int .i64 t.ad)
  | [], j, t, h => by simp at h
  | x :: c, 0, t, h => by simp at h; subst h; exact ⟨rfl, rfl, rfl⟩
  | x :: c, j + 1, t, h => by
    have ih := tnsV_get c j t (by simpa using h)
    rw [show (j + 1) * 3 = j * 3 + 1 + 1 + 1 by omega]
    exact ih
theorem tnsV_at (c : List Tn) (q : Nat) (u : Value) (h : (tnsV c)[q]? = some u) : ∃ j t, c[j]? = some t ∧ ((q = j * 3 ∧ u = .int .i64 t.th) ∨ (q = j * 3 + 1 ∧ u = .bool t.ou) ∨ (q = j * 3 + 2 ∧ u = .int .i64 t.ad)) := by
  have hq : q < c.length * 3 := by rw [← tnsV_len]; exact (List.getElem?_eq_some_iff.1 h).1
  have hj : q / 3 < c.length := by omega
  have hp : c[q / 3]? = some c[q / 3] := List.getElem?_eq_getElem hj
  obtain ⟨h0, h1, h2⟩ := tnsV_get c (q / 3) _ hp
  refine ⟨q / 3, _, hp, ?_⟩
  by_cases e : q % 3 = 0
  · have e2 : q = q / 3 * 3 := by omega
    rw [← e2, h] at h0; cases h0; exact .inl ⟨e2, rfl⟩
  · by_cases e1 : q % 3 = 1
    · have e2 : q = q / 3 * 3 + 1 := by omega
      rw [← e2, h] at h1; cases h1; exact .inr (.inl ⟨e2, rfl⟩)
    · have e2 : q = q / 3 * 3 + 2 := by omega
      rw [← e2, h] at h2; cases h2; exact .inr (.inr ⟨e2, rfl⟩)
theorem TnAt.of {W : World} {S : Nat → Prop} {g n cap : Nat} {c : List Tn} (h : Has W S 44 3 (.slice (some ⟨g, 0, none⟩) n cap) n (tnsV c)) : TnAt W (some ⟨g, 0, none⟩) n c := by
  have hl := h.1
  rw [tnsV_len] at hl
  refine ⟨by omega, .inr ⟨g, 0, rfl, (h.lt g rfl).2, fun j t hj => ?_⟩⟩
  obtain ⟨e0, e1, e2⟩ := tnsV_get c j t hj
  rw [Nat.zero_add]
  exact ⟨h.cells (g := g) rfl _ _ e0, h.cells (g := g) rfl _ _ e1, h.cells (g := g) rfl _ _ e2⟩
theorem wp_append_tn {w : World} {o : Oper} {a : Act} {K : Act → World → Prop} {Q : Exit → Act → World → Prop} (s x : Operand)
    (ho : o.op = .call { callee := .builtin .append, args := #[s, x], argTypes := #[27, 27] }) (B b : Nat) (hs : a.eval s = .slice (some ⟨b, 0, none⟩) 0 0) (hE : Has w (fun k => B ≤ k) 44 3 (.slice (some ⟨b, 0, none⟩) 0 0) 0 [])
    (a1 : Option Addr) (n1 k1 : Nat) (c : List Tn) (hx : a.eval x = .slice a1 n1 k1) (hC : TnAt w a1 n1 c) (hz : n1 * 24 ≤ 140737488351232) (hB : B ≤ w.heap.size)
    (h : ∀ ga ca w', TnAt w' (some ⟨ga, 0, none⟩) n1 c → n1 ≤ ca → Below B w w' → K (a.put o.dst (.slice (some ⟨ga, 0, none⟩) n1 ca)) w') : o.wp Tryd.prog a w K Q := by
  obtain ⟨nn, hnn, hn0, hn1, hn2⟩ := info_t
  have hbl := hE.lt b rfl
  by_cases h0 : n1 = 0
  · subst h0
    have hc : c = [] := List.eq_nil_of_length_eq_zero (by have := hC.1; omega)
    refine wp_append_zero s x 27 ho 44 nn Tryd.underlying27 hnn _ 0 0 (Nat.le_refl _) hs _ _ hx ?_
    exact h b 0 w ⟨by rw [hc]; rfl, .inl hc⟩ (Nat.le_refl _) (Below.refl _ _)
  · have hne : c ≠ [] := fun e => h0 (by have := hC.1; rw [e] at this; simpa using this)
    obtain ⟨g, q, rfl, hg, hcc⟩ := hC.2.resolve_left hne
    have hl := hC.1
    refine wp_append_has _ s x 27 ho (fun k => B ≤ k) 44 nn _ 3 24 Tryd.underlying27 hnn hn0 hn1 hn2 rfl _ 0 [] hs hE ⟨g, q, none⟩ n1 k1 (tnsV c) hx (by rw [tnsV_len, hl]) ?_ (tnsV_one c) (by omega) (by unfold maxLen; omega) (by omega) hB ?_
    · intro j u hu
      obtain ⟨j', t, ht, ⟨rfl, rfl⟩ | ⟨rfl, rfl⟩ | ⟨rfl, rfl⟩⟩ := tnsV_at c j u hu
      · rw [add1]; exact (hcc j' t ht).1
      · rw [add1, show q + (j' * 3 + 1) = q + j' * 3 + 1 by omega]; exact (hcc j' t ht).2.1
      · rw [add1, show q + (j' * 3 + 2) = q + j' * 3 + 2 by omega]; exact (hcc j' t ht).2.2
    · intro g2 cap2 w3 hh3 hgr hgg
      simp only [Nat.zero_add, List.nil_append] at hh3 ⊢
      obtain ⟨g9, cp9, hv9, -, hg9, hc9, -⟩ := hh3.there (by omega)
      cases hv9
      exact h g2 cap2 w3 (TnAt.of hh3) hc9 ((Below.refl _ _).grown hgr hB (fun k hk => (hE.lt k hk).1))
theorem runR_len (l : Lt) (o : Int) (ts : List Tn) : (runR l o ts).1.ws.length ≤ 1000000 ∧ (runR l o ts).1.rg.length ≤ 1000000 ∧ (runR l o ts).1.pl.length ≤ 1000000 ∧ (runR l o ts).1.bf.length ≤ 1000000 ∧ ∀ c ∈ (runR l o ts).1.bf, c.length ≤ 1000000000000000000 := by
  unfold runR
  split
  · exact ⟨by simp [nilS], by simp [nilS], by simp [nilS], by simp [nilS], fun c hc => by simp [nilS] at hc⟩
  · split
    · exact ⟨by simp [nilS], by simp [nilS], by simp [nilS], by simp [nilS], fun c hc => by simp [nilS] at hc⟩
    · split
      · exact ⟨by simp [nilS], by simp [nilS], by simp [nilS], by simp [nilS], fun c hc => by simp [nilS] at hc⟩
      · rename_i hc0 _ _
        have hc : chkB l = true := by cases h : chkB l; exact absurd h hc0; rfl
        have hg := goS_wg (o := o) hc ts
        obtain ⟨c1, c2, c3⟩ := chk_len hc
        refine ⟨by rw [hg.sh.w]; omega, by rw [hg.sh.r]; omega, by rw [hg.sh.p]; omega, by rw [hg.sh.b]; omega, fun x hx => ?_⟩
        obtain ⟨k, hk⟩ := List.getElem?_of_mem hx
        have hkl := (List.getElem?_eq_some_iff.1 hk).1
        rw [hg.sh.b] at hkl
        have hT := (hg.tp k _ (List.getElem?_eq_getElem hkl)).1.b1
        have e : (vw (goS l o (begS l, 0) ts).1 k).b = x := by simp [vw, List.getD_eq_getElem?_getD, hk]
        rw [e] at hT; omega
set_option maxHeartbeats 4000000 in
theorem num_any (x : Int) (w : World) : Calls Tryd.prog 9 #[.int .i64 x] w fun e w' => e = .returned (.int .i64 x) ∧ w' = w := by
  go_enter Tryd.func9, Tryd.ntmps9
  go_wp2
  go_ret
  exact ⟨rfl, rfl⟩
end Go.Proofs.YtedcpglgfjelbaaDoor.Ts
