import Derived.Test.YtedaoljmcfbbpaaGreatJ36
import Derived.OwnWalk
import Derived.Test.YtedaoljmcfbbpaaGreatJ23
/-
  DEQUE: atOnce.
-/
namespace Go.Proofs.YtedaoljmcfbbpaaGreat.Hd
open Go.RowKit Mr Md
set_option linter.unusedVariables false
set_option linter.unusedSimpArgs false
set_option maxRecDepth 100000
theorem own_inb {w : World} {S : Nat → Prop} {e : TypeId} {size n : Nat} {v : Value} {xs : List Value} (h : Md.Own w S e size v n xs) : Md.Own w (fun k => S k ∧ k < w.heap.size) e size v n xs := by
  obtain ⟨h1, a, cap, hv, hc, hm, h2⟩ := h
  refine ⟨h1, a, cap, hv, hc, hm, h2.imp id ?_⟩
  rintro ⟨g, o, cur, ha, hS, hg, hs, hx⟩
  exact ⟨g, o, cur, ha, ⟨hS, (Array.getElem?_eq_some_iff.1 hg).1⟩, hg, hs, hx⟩
theorem Own.take {W : World} {S : Nat → Prop} {e : TypeId} {size n : Nat} {a : Option Addr} {cap : Nat} {xs : List Value} (h : Md.Own W S e size (.slice a n cap) n xs) (m : Nat) (hm : m ≤ n) : Md.Own W S e size (.slice a m cap) m (xs.take (m * size)) := by
  obtain ⟨h1, a', cap', hv, hc, hx, h2⟩ := h
  cases hv
  have hms : m * size ≤ n * size := Nat.mul_le_mul_right _ hm
  refine ⟨by rw [List.length_take]; omega, a, cap, rfl, by omega, hx, h2.imp id ?_⟩
  rintro ⟨g, o, cur, ha, hS, hg, hs, he⟩
  refine ⟨g, o, cur, ha, hS, hg, hs, ?_⟩
  rw [← he, List.take_take, Nat.min_eq_left hms]
theorem Own.tail {W : World} {S : Nat → Prop} {e : TypeId} {n : Nat} {g o cap : Nat} {xs : List Value} (h : Md.Own W S e 1 (.slice (some ⟨g, o, none⟩) n cap) n xs) (hn : 0 < n) (A : Option Addr) (hA : A = if cap = 1 then some ⟨g, o, none⟩ else some ⟨g, o + 1, none⟩) : Md.Own W S e 1 (.slice A (n - 1) (cap - 1)) (n - 1) (xs.drop 1) := by
  obtain ⟨g', o', cap', cur, hv, hc, hm, hS, hg, hs, hx⟩ := h.there hn
  cases hv
  refine ⟨by rw [List.length_drop, h.1]; omega, A, cap - 1, rfl, by omega, by omega, ?_⟩
  by_cases e : cap = 1
  · exact .inl (by omega)
  · rw [if_neg e] at hA
    refine .inr ⟨g, o + 1, cur, hA, hS, hg, by omega, ?_⟩
    rw [← hx, List.drop_take, List.drop_drop]
    simp
theorem new1 {W : World} {b : Nat} {x : Value} {t : TypeId} (hb : b = W.heap.size) : ∀ ad, some (⟨b, 0, none⟩ : Addr) = some ad → ∀ j u, [x][j]? = some u → (W.alloc (.cells #[x] t (0, 0))).cell? (ad.add j) = some u := by
  subst hb
  rintro ad e j u hu
  cases e
  rw [add1, Nat.zero_add, Dq.cell_blk (heap_alloc_new W _)]
  simpa using hu
def anV (k v : Int) : Value := .agg #[.int .i64 k, .int .i64 v]
def anO (k v : Int) : Obj := .cells #[.int .i64 k, .int .i64 v] 43 (0, 0)
theorem results_tmpcell {fn : Func} {p u : Tmp} {ty : TypeId} (h : fn.results = #[.tmp u, .cell p ty]) (tmps : Array Value) (w : World) (ad : Addr) (v : Value)
    (hp : tmps.getD p undef = .pointer (some ad)) (hl : (loadVar ty ad).run Tryz.prog w = .ok v w) :
    (results fn tmps).run Tryz.prog w = .ok (.tuple #[tmps.getD u undef, v]) w := by
  have hp' : tmps[p]?.getD undef = .pointer (some ad) := by simpa using hp
  simp [results, h, hp', asAddr, hl, Sem.run_bind, Result.andThen]
theorem loadAn {w : World} {b : Nat} {k x : Int} (h : w.heap[b]? = some (anO k x)) : (loadVar 43 ⟨b, 0, none⟩).run Tryz.prog w = .ok (anV k x) w :=
  run_loadVar_row w b 43 43 #[.int .i64 k, .int .i64 x] (0, 0) _ h Tryz.underlying43 rfl (by rfl)
set_option maxHeartbeats 1000000 in
theorem valueAnswer_any (v : Int) (w : World) : Calls Tryz.prog 46 #[.int .i64 v] w fun e w' => e = .returned (anV 2 v) ∧ Below w.heap.size w w' := by
  go_enter Tryz.func46, Tryz.ntmps46
  go_wp2
  refine bodyPost_ret (results_cell_row rfl _ _ (w.heap.size) 43 #[.int .i64 2, .int .i64 v] (0, 0) _ rfl (new_at _ _ _ rfl) (by rfl) rfl (by rfl)) rfl ⟨rfl, b1b _⟩
/-- Behind the boxes and the answer's cell. -/
structure Ow (w W : World) (S : Nat → Prop) (th rm : Int) (c : Cq) (v : Value) (vs : List Int) (k x : Int) : Prop where
  d0 : W.cell? ⟨w.heap.size, 0, none⟩ = some (.int .i64 th)
  d1 : W.cell? ⟨w.heap.size, 1, none⟩ = some (.int .i64 rm)
  call : CqAt W (w.heap.size + 1) 0 c
  ans : W.heap[w.heap.size + 2]? = some (anO k x)
  own : Md.Own W (fun k => (S k ∧ k < w.heap.size) ∨ w.heap.size + 3 ≤ k) 3 1 v vs.length (ints vs)
  fr : Fr w W S
theorem ow_new {w : World} {S : Nat → Prop} {v : Value} {vs : List Int} (h : Md.Own w S 3 1 v vs.length (ints vs)) (th rm : Int) (c : Cq) :
    Ow w (((w.alloc (.cells #[.int .i64 th, .int .i64 rm] 23 (0, 0))).alloc (cqO c)).alloc (anO 0 0)) S th rm c v vs 0 0 := by
  have B : Below w.heap.size w (((w.alloc (.cells #[.int .i64 th, .int .i64 rm] 23 (0, 0))).alloc (cqO c)).alloc (anO 0 0)) := ((b1b _).alloc (by simp) _).alloc (by simp; omega) _
  have h0 : (((w.alloc (.cells #[.int .i64 th, .int .i64 rm] 23 (0, 0))).alloc (cqO c)).alloc (anO 0 0)).heap[w.heap.size]? = some (.cells #[.int .i64 th, .int .i64 rm] 23 (0, 0)) := old_at (old_at (new_at _ _ _ rfl) _) _
  exact ⟨by rw [Dq.cell_blk h0]; rfl, by rw [Dq.cell_blk h0]; rfl, cqO_cells (old_at (new_at _ _ _ (by simp)) _), new_at _ _ _ (by simp), ((own_inb h).below B).mono (fun _ => .inl), Fr.of_below B⟩
theorem setBlk {W : World} {b : Nat} {cs : Array Value} {t : TypeId} {fr : Nat × Nat} (h : W.heap[b]? = some (.cells cs t fr)) (o : Nat) (v : Value) : (W.setCell ⟨b, o, none⟩ v).heap[b]? = some (.cells (cs.setIfInBounds o v) t fr) := by
  obtain ⟨hlt, hk⟩ := Array.getElem?_eq_some_iff.1 h
  show (W.heap.modify b _)[b]? = _
  rw [Array.getElem?_eq_getElem (by rw [Array.size_modify]; exact hlt), Array.getElem_modify_self, hk]
  rfl
section
variable {w W : World} {S : Nat → Prop} {th rm : Int} {c : Cq} {v : Value} {vs : List Int} {k x : Int}
theorem Ow.fin (h : Ow w W S th rm c v vs k x) (k' x' : Int) (W' : World) (hW : W' = (W.setCell ⟨w.heap.size + 2, 0, none⟩ (.int .i64 k')).setCell ⟨w.heap.size + 2, 1, none⟩ (.int .i64 x')) :
    W'.heap[w.heap.size + 2]? = some (anO k' x') ∧ Md.Own W' (fun k => S k ∨ w.heap.size ≤ k) 3 1 v vs.length (ints vs) ∧ Fr w W' S := by
  have f : Fr W W' (fun b => b = w.heap.size + 2) := by
    rw [hW]
    exact Fr.setCell (S := fun b => b = w.heap.size + 2) (Fr.setCell (S := fun b => b = w.heap.size + 2) (Fr.refl W _) ⟨w.heap.size + 2, 0, none⟩ _ (.inl rfl)) ⟨w.heap.size + 2, 1, none⟩ _ (.inl rfl)
  have g : Fr w W' S := by
    rw [hW]
    exact (h.fr.setCell _ _ (.inr (Nat.le_add_right _ 2))).setCell _ _ (.inr (Nat.le_add_right _ 2))
  have s : W'.heap[w.heap.size + 2]? = some (anO k' x') := by
    rw [hW]
    have s0 := h.ans
    unfold anO at s0
    have s1 := setBlk (setBlk s0 0 (.int .i64 k')) 1 (.int .i64 x')
    simpa [anO] using s1
  refine ⟨s, ?_, g⟩
  have o := h.own.fr f (fun b hb _ e => by
    subst e
    rcases hb with ⟨_, hb⟩ | hb <;> omega)
  exact o.mono (fun b hb => by
    rcases hb with ⟨hb, _⟩ | hb
    · exact .inl hb
    · exact .inr (by omega))
theorem Ow.sub (h : Ow w W S th rm c v vs k x) (v' : Value) (vs' : List Int) (ho : Md.Own W (fun k => (S k ∧ k < w.heap.size) ∨ w.heap.size + 3 ≤ k) 3 1 v' vs'.length (ints vs')) : Ow w W S th rm c v' vs' k x := ⟨h.d0, h.d1, h.call, h.ans, ho, h.fr⟩
theorem Ow.lt (h : Ow w W S th rm c v vs k x) : w.heap.size + 3 ≤ W.heap.size := by
  have := (Array.getElem?_eq_some_iff.1 h.ans).1; omega
theorem Ow.app (h : Ow w W S th rm c v vs k x) {u : Obj} {v' : Value} {y : Int} {w2 : World} (ho : Md.Own w2 (fun b => ((S b ∧ b < w.heap.size) ∨ w.heap.size + 3 ≤ b) ∨ b = (W.alloc u).heap.size) 3 1 v' (vs.length + 1) (ints vs ++ [.int .i64 y]))
    (hf : Fr (W.alloc u) w2 (fun b => (S b ∧ b < w.heap.size) ∨ w.heap.size + 3 ≤ b)) : Ow w w2 S th rm c v' (vs ++ [y]) k x := by
  have hl := h.lt
  have fa : Fr W w2 (fun b => (S b ∧ b < w.heap.size) ∨ w.heap.size + 3 ≤ b) := (Fr.of_below (b1b u)).trans (hf.mono (fun _ => .inl))
  have kb : ∀ b, b < w.heap.size + 3 → w.heap.size ≤ b → w2.heap[b]? = W.heap[b]? := fun b h1 h2 => fa.block b (by omega) (by omega)
  have kc : ∀ b j, b < w.heap.size + 3 → w.heap.size ≤ b → w2.cell? ⟨b, j, none⟩ = W.cell? ⟨b, j, none⟩ := fun b j h1 h2 => by unfold World.cell?; rw [show (⟨b, j, none⟩ : Addr).block = b from rfl, kb b h1 h2]
  obtain ⟨l0, c0, c1, c2, c3, c4, c5, c6, c7, c8⟩ := h.call
  have hs := fa.size
  refine ⟨(kc _ _ (by omega) (by omega)).trans h.d0, (kc _ _ (by omega) (by omega)).trans h.d1, ⟨by omega, (kc _ _ (by omega) (by omega)).trans c0, (kc _ _ (by omega) (by omega)).trans c1, (kc _ _ (by omega) (by omega)).trans c2, (kc _ _ (by omega) (by omega)).trans c3, (kc _ _ (by omega) (by omega)).trans c4, (kc _ _ (by omega) (by omega)).trans c5, (kc _ _ (by omega) (by omega)).trans c6, (kc _ _ (by omega) (by omega)).trans c7, (kc _ _ (by omega) (by omega)).trans c8⟩, (kb _ (by omega) (by omega)).trans h.ans, ?_, ?_⟩
  · have : ints (vs ++ [y]) = ints vs ++ [.int .i64 y] := by simp [ints]
    rw [this, List.length_append]
    exact ho.mono (fun b hb => by rcases hb with hb | hb; exact hb; right; rw [hb]; simp; omega)
  · refine ⟨hf.os.trans (h.fr.os), hf.tape.trans h.fr.tape, hf.output.trans h.fr.output, Nat.le_trans h.fr.size hs, fun b hb hS => ?_⟩
    rw [fa.block b (by omega) (by rintro (⟨h1, _⟩ | h1); exact hS h1; omega), h.fr.block b hb hS]
end
theorem frz {W W' : World} {b j : Nat} (h : W'.heap[b]? = W.heap[b]?) : W'.frozen? ⟨b, j, none⟩ = W.frozen? ⟨b, j, none⟩ := by
  unfold World.frozen?
  simp only [h]
theorem cell_ne {W : World} {b b' j j' : Nat} {u : Value} (h : b ≠ b') : (W.setCell ⟨b', j', none⟩ u).cell? ⟨b, j, none⟩ = W.cell? ⟨b, j, none⟩ := by
  unfold World.cell?
  rw [Below.heap_setCell W ⟨b', j', none⟩ u b h]
theorem Ow.below {w W W' : World} {S : Nat → Prop} {th rm : Int} {c : Cq} {v : Value} {vs : List Int} {k x : Int} (h : Ow w W S th rm c v vs k x) (hB : Below W.heap.size W W') : Ow w W' S th rm c v vs k x := by
  have hl := h.lt
  exact ⟨(hB.cell (p := ⟨_, _, none⟩) (by show w.heap.size < _; omega)).trans h.d0, (hB.cell (p := ⟨_, _, none⟩) (by show w.heap.size < _; omega)).trans h.d1, h.call.below hB, (hB.block _ (by omega)).trans h.ans, h.own.below hB,
    ⟨hB.os.trans h.fr.os, hB.tape.trans h.fr.tape, hB.output.trans h.fr.output, Nat.le_trans h.fr.size hB.size, fun b hb hS => (hB.block b (Nat.lt_of_lt_of_le hb h.fr.size)).trans (h.fr.block b hb hS)⟩⟩
end Go.Proofs.YtedaoljmcfbbpaaGreat.Hd
/-
  DEQUE: the program's Left.
-/
namespace Go.Proofs.YtedaoljmcfbbpaaGreat.Dq
open Go.RowKit Mr
set_option linter.unusedVariables false
set_option linter.unusedSimpArgs false
set_option maxRecDepth 100000
theorem lfR_ok {th rm : Int} {ws : List Int} (h1 : dqB th rm = true) (h2 : (ws.length : Int) = 2 + rm) (h3 : lfOk rm ws) : lfR th rm ws = (lfL rm.toNat ws (lfT ws).toNat (lfB ws - lfT ws).toNat, 0) := by
  unfold lfR; rw [if_neg (by rw [h1]; simp), if_neg (by simpa using h2), if_pos h3]
theorem lfR_no {th rm : Int} {ws : List Int} (h1 : dqB th rm = true) (h3 : (ws.length : Int) ≠ 2 + rm ∨ ¬ lfOk rm ws) : lfR th rm ws = ([], 211) := by
  unfold lfR; rw [if_neg (by rw [h1]; simp)]
  by_cases h2 : (ws.length : Int) ≠ 2 + rm
  · rw [if_pos h2]
  · rw [if_neg h2, if_neg (h3.resolve_left h2)]
theorem dqB_in {th rm : Int} (h : dqB th rm = true) : 1 ≤ th ∧ th ≤ 16 ∧ 1 ≤ rm ∧ rm ≤ 256 := by
  simp only [dqB, Bool.and_eq_true, decide_eq_true_eq] at h; omega
theorem LfP.no {w W : World} {x : List Int × Int} {c : Int} (hx : x = ([], c)) (hB : Below w.heap.size w W) : LfP w W x (.returned (.tuple #[.slice none 0 0, .int .i64 c])) := by
  subst hx; exact ⟨none, 0, rfl, ⟨rfl, .inl rfl⟩, hB⟩
set_option maxHeartbeats 8000000 in
theorem Left_chk (th rm : Int) (ws : List Int) (a : Option Addr) (n c : Nat) (w : World) (hW : WdAt w a n ws) (hd : dqB th rm = false) :
    Calls Tryz.prog 10 #[dV th rm, .slice a n c] w fun e w' => LfP w w' (lfR th rm ws) e := by
  have B0 := bxd_below w th rm
  have b0 := bxd_0 w th rm
  have c0 := cell_blk b0 0
  have c1 := cell_blk b0 1
  have CK := Mr.hid (check_any th rm (w.alloc (.cells #[.int .i64 th, .int .i64 rm] 23)))
  rw [hd] at CK
  have hfin : Hid (∀ W, Below w.heap.size w W → LfP w W (lfR th rm ws) (.returned (.tuple #[.slice none 0 0, .int .i64 210]))) := fun W hB => LfP.no (by unfold lfR; rw [if_pos hd]) hB
  replace B0 := Mr.hid B0
  clear b0 hW hd
  unfold dV at *
  go_enter Tryz.func10, Tryz.ntmps10
  go_wp2_with (go_at_call 19; refine CK.out.mono ?_; clear CK; rintro e w2 ⟨rfl, B2⟩; have BB := Mr.hid (B0.out.trans (B2.mono B0.out.size)); clear B2)
  go_ret2
  exact hfin.out _ BB.out
set_option maxHeartbeats 8000000 in
theorem Left_len (th rm : Int) (ws : List Int) (a : Option Addr) (n c : Nat) (w : World) (hW : WdAt w a n ws) (hd : dqB th rm = true) (hl : (ws.length : Int) ≠ 2 + rm) :
    Calls Tryz.prog 10 #[dV th rm, .slice a n c] w fun e w' => LfP w w' (lfR th rm ws) e := by
  have B0 := bxd_below w th rm
  have b0 := bxd_0 w th rm
  have c0 := cell_blk b0 0
  have c1 := cell_blk b0 1
  obtain ⟨k1, k2, k3, k4⟩ := dqB_in hd
  have CK := Mr.hid (check_any th rm (w.alloc (.cells #[.int .i64 th, .int .i64 rm] 23)))
  have SZ := Mr.hid (fun W => size_any th rm W k3 k4)
  rw [hd] at CK
  have hfin : Hid (∀ W, Below w.heap.size w W → LfP w W (lfR th rm ws) (.returned (.tuple #[.slice none 0 0, .int .i64 211]))) := fun W hB => LfP.no (lfR_no hd (.inl hl)) hB
  have hz : ((n : Int) != 2 + rm) = true := bne_iff_ne.2 (by have := hW.1; omega)
  replace B0 := Mr.hid B0
  have b0' := Mr.hid b0
  clear b0 hW hd hl k1 k2 k3 k4
  unfold dV at *
  go_enter Tryz.func10, Tryz.ntmps10
  go_wp2_with (first
    | (go_at_call 19; refine CK.out.mono ?_; clear CK; rintro e w2 ⟨rfl, B2⟩; have d0 := (B2.block _ (Array.getElem?_eq_some_iff.1 b0'.out).1).trans b0'.out; have e0 := cell_blk d0 0; have e1 := cell_blk d0 1; have BB := Mr.hid (B0.out.trans (B2.mono B0.out.size)); clear B2)
    | (go_at_call 20; refine (SZ.out _).mono ?_; clear SZ; rintro e w3 ⟨rfl, B3⟩; have BC := Mr.hid (BB.out.trans (B3.mono BB.out.size)); clear B3))
  go_ret2
  exact hfin.out _ BC.out
set_option maxHeartbeats 16000000 in
theorem Left_go (th : Int) (rn : Nat) (ws : List Int) (a : Option Addr) (n c : Nat) (w : World) (hW : WdAt w a n ws) (hd : dqB th rn = true) (hl : (ws.length : Int) = 2 + rn) :
    Calls Tryz.prog 10 #[dV th rn, .slice a n c] w fun e w' => LfP w w' (lfR th rn ws) e := by
  have B0 := bxd_below w th rn
  have b0 := bxd_0 w th rn
  have c0 := cell_blk b0 0
  have c1 := cell_blk b0 1
  obtain ⟨k1, k2, k3, k4⟩ := dqB_in hd
  have CK := Mr.hid (check_any th rn (w.alloc (.cells #[.int .i64 th, .int .i64 rn] 23)))
  have SZ := Mr.hid (fun W => size_any th rn W k3 k4)
  rw [hd] at CK
  have hz : ((n : Int) != 2 + (rn : Int)) = false := by have := hW.1; rw [show (n : Int) = 2 + (rn : Int) by omega]; simp
  have hwl := hW.1
  obtain ⟨b, q, rfl, hb, hcell⟩ := hW.2.resolve_left (fun e => by rw [e] at hl; simp at hl; omega)
  have r0 := hcell 0 _ (List.getElem?_eq_getElem (show 0 < ws.length by omega))
  have r1 := hcell 1 _ (List.getElem?_eq_getElem (show 1 < ws.length by omega))
  rw [Nat.add_zero] at r0
  have et : lfT ws = wrap64 (ws[0]'(by omega)) := by unfold lfT; rw [List.getD_eq_getElem?_getD, List.getElem?_eq_getElem (show 0 < ws.length by omega)]; rfl
  have eb : lfB ws = wrap64 (ws[1]'(by omega)) := by unfold lfB; rw [List.getD_eq_getElem?_getD, List.getElem?_eq_getElem (show 1 < ws.length by omega)]; rfl
  generalize (ws[0]'(by omega)) = x0 at r0 et
  generalize (ws[1]'(by omega)) = x1 at r1 eb
  have VA : Hid (∀ x W, Calls Tryz.prog 21 #[.int .u64 x] W fun e w' => e = .returned (.int .i64 (wrap64 x)) ∧ w' = W) := fun x W => value_any x W
  have n0 : (0 : Int) < (n : Int) := by omega
  have n1 : (1 : Int) < (n : Int) := by omega
  have hlz := Mr.hid hl
  replace B0 := Mr.hid B0
  have b0' := Mr.hid b0
  have hcell' := Mr.hid hcell
  have hwl' := Mr.hid hwl
  have hd' := Mr.hid hd
  have bdT := Mr.hid (wrap64_bd x0)
  have bdB := Mr.hid (wrap64_bd x1)
  replace et := Mr.hid et
  replace eb := Mr.hid eb
  have kk : Hid (1 ≤ rn ∧ rn ≤ 256) := by constructor <;> omega
  clear b0 hW hd hl k1 k2 k3 k4 hcell hwl
  unfold dV at *
  go_enter Tryz.func10, Tryz.ntmps10
  go_upto_region 6 with (first
    | (go_at_call 19; refine CK.out.mono ?_; clear CK; rintro e w2 ⟨rfl, B2⟩; have d0 := (B2.block _ (Array.getElem?_eq_some_iff.1 b0'.out).1).trans b0'.out; have e0 := cell_blk d0 0; have e1 := cell_blk d0 1; have BB := Mr.hid (B0.out.trans (B2.mono B0.out.size)); clear B2)
    | (go_at_call 20; refine (SZ.out _).mono ?_; clear SZ; rintro e w3 ⟨rfl, B3⟩; have BC := Mr.hid (BB.out.trans (B3.mono BB.out.size)); replace d0 := (B3.block _ (Array.getElem?_eq_some_iff.1 d0).1).trans d0; clear B3))
  clear c0 c1 e0 e1 hz B0 BB b0'
  replace r0 := (BC.out.cell (p := ⟨b, q, none⟩) hb).trans r0
  replace r1 := (BC.out.cell (p := ⟨b, q + 1, none⟩) hb).trans r1
  have hb3 := Nat.lt_of_lt_of_le hb BC.out.size
  have hb0 := Mr.hid hb
  clear hb
  go_quiet ((go_at_call 21; exact Calls.quiet_of_same (VA.out _ _)))
  have hBz : Hid (Below w.heap.size w (w3.drewN nq)) := draws' BC.out _
  have d0' : (w3.drewN nq).heap[w.heap.size]? = some (.cells #[.int .i64 th, .int .i64 (rn : Int)] 23 (0, 0)) := d0
  clear r0 r1 hb3 BC d0
  generalize w3.drewN nq = w4 at *
  have e1 := cell_blk d0' 1
  have le := (Array.getElem?_eq_some_iff.1 d0').1
  generalize wrap64 x0 = t at *
  generalize wrap64 x1 = bb at *
  by_cases p0 : t < 0
  · have q0 : decide (t < 0) = true := decide_eq_true p0
    have hfin : Hid (LfP w w4 (lfR th rn ws) (.returned (.tuple #[.slice none 0 0, .int .i64 211]))) := LfP.no (lfR_no hd'.out (.inr (fun h => by have := h.1; rw [et.out] at this; omega))) hBz.out
    go_wp2
    go_ret2
    exact hfin.out
  have q0 : decide (t < 0) = false := decide_eq_false p0
  by_cases p1 : 65536 < t
  · have q1 : decide (65536 < t) = true := decide_eq_true p1
    have hfin : Hid (LfP w w4 (lfR th rn ws) (.returned (.tuple #[.slice none 0 0, .int .i64 211]))) := LfP.no (lfR_no hd'.out (.inr (fun h => by have := h.2.1; rw [et.out] at this; omega))) hBz.out
    go_wp2
    go_ret2
    exact hfin.out
  have q1 : decide (65536 < t) = false := decide_eq_false p1
  have hw1 : IntKind.i64.wrap (t - 1) = t - 1 := i64x _ (by omega) (by omega)
  have hw2 : IntKind.i64.wrap (t + (rn : Int)) = t + (rn : Int) := i64x _ (by omega) (by have := kk.out; omega)
  by_cases p2 : bb < t - 1
  · have q2 : decide (bb < t - 1) = true := decide_eq_true p2
    have hfin : Hid (LfP w w4 (lfR th rn ws) (.returned (.tuple #[.slice none 0 0, .int .i64 211]))) := LfP.no (lfR_no hd'.out (.inr (fun h => by have := h.2.2.1; rw [et.out, eb.out] at this; omega))) hBz.out
    go_wp2
    go_ret2
    exact hfin.out
  have q2 : decide (bb < t - 1) = false := decide_eq_false p2
  by_cases p3 : t + (rn : Int) < bb
  · have q3 : decide (t + (rn : Int) < bb) = true := decide_eq_true p3
    have hfin : Hid (LfP w w4 (lfR th rn ws) (.returned (.tuple #[.slice none 0 0, .int .i64 211]))) := LfP.no (lfR_no hd'.out (.inr (fun h => by have := h.2.2.2; rw [et.out, eb.out] at this; omega))) hBz.out
    go_wp2
    go_ret2
    exact hfin.out
  have q3 : decide (t + (rn : Int) < bb) = false := decide_eq_false p3
  obtain ⟨tn, rfl⟩ := Int.eq_ofNat_of_zero_le (show 0 ≤ t by omega)
  obtain ⟨m, hm⟩ : ∃ m, m = (bb - (tn : Int)).toNat := ⟨_, rfl⟩
  have hfin : Hid (∀ (v : Option Addr) (cv : Nat) (W : World), IsAt W v m (lfL rn ws tn m) → Below w.heap.size w W → LfP w W (lfR th rn ws) (.returned (.tuple #[.slice v m cv, .int .i64 0]))) := fun v cv W hI hB => by
    have e := lfR_ok hd'.out hlz.out (show lfOk rn ws from ⟨by rw [et.out]; omega, by rw [et.out]; omega, by rw [et.out, eb.out]; omega, by rw [et.out, eb.out]; omega⟩)
    rw [et.out, eb.out, Int.toNat_natCast, Int.toNat_natCast, ← hm] at e
    rw [e]
    have hll : (lfL rn ws tn m).length = m := by simp [lfL]
    exact ⟨v, cv, by dsimp only; rw [hll], by dsimp only; rw [hll]; exact hI, hB⟩
  have hmb : Hid (m ≤ 256 ∧ tn ≤ 65536 ∧ (∀ i : Nat, i < m → ((tn + i : Nat) : Int) < bb) ∧ ∀ i : Nat, i = m → ¬ ((tn + i : Nat) : Int) < bb) := ⟨by have := kk.out; omega, by omega, fun i hi => by omega, fun i hi => by omega⟩
  replace hm := Mr.hid hm
  have hd0 := Mr.hid d0'
  go_upto_region 11 with fail
  clear q0 q1 q2 q3 p0 p1 p2 p3 hw1 hw2 e1 le d0' n0 n1
  go_loopg [9, 10] m (fun gk s9 s10 wr => ∃ (i : Nat) (v : Value), s9 = v ∧ s10 = .int .i64 ((tn + i : Nat) : Int) ∧ i + gk = m ∧ Has wr (fun k => w4.heap.size ≤ k) 3 1 v i (intsV (lfL rn ws tn i)) ∧ Below w4.heap.size w4 wr)
  case atStart => exact ⟨0, _, rfl, rfl, by omega, Has.nil _ _ _ _, Below.refl _ _⟩
  case round =>
    obtain ⟨i, v, rfl, rfl, hi, hH, hB⟩ := hrel
    obtain ⟨av, cv, rfl, hcv⟩ := hH.form
    have hBw : Hid (Below w.heap.size w wr) := hBz.out.trans (hB.mono hBz.out.size)
    by_cases hlt : i < m
    · have hI := hmb.out.2.2.1 i hlt
      have dl : decide (((tn + i : Nat) : Int) < bb) = true := decide_eq_true hI
      have d1 := (hB.block _ (Array.getElem?_eq_some_iff.1 hd0.out).1).trans hd0.out
      have e1 := cell_blk d1 1
      have le := (Array.getElem?_eq_some_iff.1 d1).1
      obtain ⟨ix, hix⟩ : ∃ ix, ix = 2 + (tn + i) % rn := ⟨_, rfl⟩
      have hixl : ix < ws.length := by have := Nat.mod_lt (tn + i) (show 0 < rn by have := kk.out; omega); have := hlz.out; omega
      have hc := hcell'.out ix _ (List.getElem?_eq_getElem hixl)
      have hc2 := (hBw.out.cell (p := ⟨b, q + ix, none⟩) hb0.out).trans hc
      have lb := Nat.lt_of_lt_of_le hb0.out hBw.out.size
      have CO := Mr.hid (fun W => cellOf_any rn (tn + i) W kk.out.1 kk.out.2 (by have := hmb.out; omega))
      rw [← hix] at CO
      have hxI : (ix : Int) < (n : Int) := by have := hwl'.out; omega
      have hval : Hid (lfV rn ws tn i = wrap64 (ws[ix]'hixl)) := by show _ = _; unfold lfV; rw [← hix, List.getD_eq_getElem?_getD, List.getElem?_eq_getElem hixl]; rfl
      have hnx : Hid (wrap64 (((tn + i : Nat) : Int) + 1) = ((tn + (i + 1) : Nat) : Int)) := by show _ = _; unfold wrap64; have := hmb.out; omega
      have hlt' := Mr.hid hlt
      generalize (ws[ix]'hixl) = xv at hc2 hval
      have VA1 := Mr.hid (fun W => VA.out xv W)
      generalize hyv : wrap64 xv = yv at VA1 hval
      have hH' := Mr.hid hH
      have hB' := Mr.hid hB
      have hi' := Mr.hid hi
      generalize hk0 : ((tn + i : Nat) : Int) = kI at *
      replace hix := Mr.hid hix
      replace hyv := Mr.hid hyv
      obtain ⟨ii, hii, hi0, hi1, hi2⟩ := info_i
      have nq1 := new_at wr (.cells #[.int .i64 yv] 3) _ rfl
      have hro : Hid (Has (wr.alloc (.cells #[.int .i64 yv] 3)) (fun k => w4.heap.size ≤ k) 3 1 (.slice av i cv) i (intsV (lfL rn ws tn i))) := hH.alloc _
      have hsz : Hid (w4.heap.size ≤ wr.heap.size) := hB.size
      clear hH hB hi hlt hc d1 hI hixl VA
      go_wp2_with (first
        | (go_at_call 22; refine (CO.out _).mono ?_; clear CO; rintro e w8 ⟨rfl, hw8⟩; obtain rfl := hw8.symm)
        | (go_at_call 21; refine (VA1.out _).mono ?_; clear VA1; rintro e w8 ⟨rfl, hw8⟩; obtain rfl := hw8.symm)
        | (at_builtin; refine wpList_append_has _ rfl _ _ 39 rfl (fun k => w4.heap.size ≤ k) 3 ii _ 1 8 Tryz.underlying39 hii hi0 hi1 hi2 rfl (.slice av i cv) i (intsV (lfL rn ws tn i)) rfl hro.out ⟨wr.heap.size, 0, none⟩ 1 1 [.int .i64 yv] rfl rfl (by
            intro j u hj
            rw [add1]
            match j, hj with
            | 0, hj => cases hj; exact cell_blk nq1 0) (by simp [Value.oneCell']) (by omega) (by have := hmb.out; have := hi'.out; unfold maxLen; omega) (by have := hmb.out; have := hi'.out; omega) (by have := hsz.out; simp; omega) ?_; intro g4 cap4 w9 hh9 hgr9 hgg9))
      have RN : Hid (Has w9 (fun k => w4.heap.size ≤ k) 3 1 (.slice (some ⟨g4, 0, none⟩) (i + 1) cap4) (i + 1) (intsV (lfL rn ws tn (i + 1)))) := by
        show Has _ _ _ _ _ _ _
        rw [lfL_succ, hval.out]
        have e : intsV (lfL rn ws tn i ++ [yv]) = intsV (lfL rn ws tn i) ++ [.int .i64 yv] := by simp [intsV]
        rw [e]; exact hh9
      have BN : Hid (Below w4.heap.size w4 w9) := (hB'.out.alloc hB'.out.size _).grown hgr9 (by have := hsz.out; simp; omega) (fun k hk => (hro.out.lt k hk).1)
      clear hh9 hgr9 hgg9
      go_roundg (gk - 1)
      case measure => have := hi'.out; have := hlt'.out; omega
      case rel => exact ⟨i + 1, _, rfl, by rw [← hnx.out], by have := hi'.out; have := hlt'.out; omega, RN.out, BN.out⟩
    · obtain rfl : i = m := by omega
      have hI := hmb.out.2.2.2 i rfl
      have dl : decide (((tn + i : Nat) : Int) < bb) = false := decide_eq_false (by omega)
      have FN := Mr.hid (hfin.out av cv wr (has_is hH) hBw.out)
      generalize ((tn + i : Nat) : Int) = kI at *
      clear hi hlt hH hB
      go_wp2
      go_ret2
      exact FN.out
theorem Left_any (th rm : Int) (ws : List Int) (a : Option Addr) (n c : Nat) (w : World) (hW : WdAt w a n ws) :
    Calls Tryz.prog 10 #[dV th rm, .slice a n c] w fun e w' => LfP w w' (lfR th rm ws) e := by
  cases hd : dqB th rm with
  | false => exact Left_chk th rm ws a n c w hW hd
  | true =>
    by_cases hl : (ws.length : Int) = 2 + rm
    · obtain ⟨rn, rfl⟩ := Int.eq_ofNat_of_zero_le (show 0 ≤ rm by have := dqB_in hd; omega)
      exact Left_go th rn ws a n c w hW hd hl
    · exact Left_len th rm ws a n c w hW hd hl
end Go.Proofs.YtedaoljmcfbbpaaGreat.Dq
