import Derived.Test.YtnapnhmmopajfaaGreatJ24
import Derived.Test.YtnapnhmmopajfaaGreatJ25
import Derived.Test.YtnapnhmmopajfaaGreatJ26
import Derived.Test.YtnapnhmmopajfaaGreatJ23
import Derived.Laws.ResultCell
/-
  deque.New by its contract.
-/
namespace Go.Proofs.YtnapnhmmopajfaaGreat.Dm
open Go.RowKit Go.Shelf Mr Me Ma Gm Dq Cn
set_option linter.unusedVariables false
set_option linter.unusedSimpArgs false
set_option maxRecDepth 100000
def dBox (th rm : Int) : Obj := .cells #[.int .i64 th, .int .i64 rm] 23 (0, 0)
theorem size_any (th : Int) (r : Nat) (hr : r ≤ 1000) (w : World) : Calls Tryz.prog 18 #[.agg #[.int .i64 th, .int .i64 (r : Int)]] w fun e w' => e = .returned (.int .i64 ((2 + r : Nat) : Int)) ∧ w' = w.alloc (dBox th r) := by
  have hw : IntKind.i64.wrap (2 + (r : Int)) = ((2 + r : Nat) : Int) := (i64w _ (by omega) (by omega)).trans (by omega)
  unfold dBox
  go_enter Tryz.func18, Tryz.ntmps18
  go_wp2
  go_ret
  exact ⟨rfl, rfl⟩
theorem commonOf_any (th : Int) (r : Nat) (w : World) : Calls Tryz.prog 19 #[.agg #[.int .i64 th, .int .i64 (r : Int)]] w fun e w' => e = .returned (.pointer (some ⟨w.heap.size + 1, 0, none⟩)) ∧ w' = (w.alloc (dBox th r)).alloc (comO r none) := by
  unfold dBox comO
  go_enter Tryz.func19, Tryz.ntmps19
  go_wp2
  go_ret
  exact ⟨by simp, rfl⟩
theorem info_u64 : (Tryz.prog.info? 63).map (fun i => (i.zero, i.size, i.bytes)) = some (some (.int .u64 0), 1, 8) := by kernel_rfl
theorem mk_w (n : Nat) (h1 : n ≤ 65536) (W : World) :
    (Instr.makeSlice 31 (.int .i64 (n : Int)) (.int .i64 (n : Int))).run Tryz.prog W = .ok (.slice (some ⟨W.heap.size, 0, none⟩) n n) (W.alloc (.cells (madeCells #[.int .u64 0] n) 63)) := by
  obtain ⟨i0, hi, hz0, hz1, hz2⟩ := info_parts info_u64
  have h := run_make (P := Tryz.prog) W 31 63 i0 (.int .u64 0) Tryz.underlying31 hi hz0 .i64 .i64 (n : Int) (n : Int) (by omega) (Int.le_refl _) (by rw [hz2]; omega) (by omega)
  rw [hz1, Nat.mul_one, Int.toNat_natCast] at h
  exact h
theorem src_made (n : Nat) (W : World) : Me.Src (W.alloc (.cells (madeCells #[.int .u64 0] n) 63)) (some ⟨W.heap.size, 0, none⟩) n n (List.replicate n 0) := by
  refine ⟨by simp, .inr ⟨_, rfl, fun j u hu => ?_⟩⟩
  have hadd : (⟨W.heap.size, 0, none⟩ : Addr).add j = ⟨W.heap.size, j, none⟩ := by unfold Addr.add; split <;> simp_all
  rw [hadd]
  have hb := heap_alloc_new W (.cells (madeCells #[.int .u64 0] n) 63 (0, 0))
  have hj : j < n := by
    have := (List.getElem?_eq_some_iff.1 hu).1
    simpa [wrd] using this
  have e1 : (wrd (List.replicate n 0))[j]? = some (.int .u64 0) := by simp [wrd, hj]
  rw [e1] at hu
  cases hu
  rw [cell_at hb j]
  have hs : j < (madeCells #[Value.int .u64 0] n).size := by rw [size_madeCells]; simpa using hj
  rw [Array.getElem?_eq_getElem hs]
  simp [madeCells, Nat.mod_one]
/-- machine.New, over the deque's kit. -/
theorem newM_d {bc cs c1 c2 km n cap nt r : Nat} {a : Option Addr} {K : Nat → Prop} {w : World} (h1 : 1 ≤ nt) (h2 : nt ≤ 16) (hs : Me.Src w a n cap (List.replicate (2 + r) 0)) (hn : n ≤ 8192) (hc : w.heap[bc]? = some (comO r none)) (hK : KA bc cs c1 c2 w K km) (hKl : ∀ k, K k → k < w.heap.size) (hb : ¬ K bc) :
    Calls Tryz.prog 17 #[.int .i64 (nt : Int), .slice a n cap, .map (some km)] w fun e w' => ∃ q U, e = .returned (.tuple #[.pointer (some ⟨q.b, 0, none⟩), .int .i64 0]) ∧ RG (dqL r bc cs c1 c2) w' U K q km (Pg.new nt (List.replicate (2 + r) 0) none) ∧ (∀ k, U k → k = bc ∨ w.heap.size ≤ k) ∧ Below w.heap.size w w' := by
  have hlt : bc < w.heap.size := (Array.getElem?_eq_some_iff.1 hc).1
  exact newM_g (L := dqL r bc cs c1 c2) w nt h1 h2 a n cap _ hs hn (T := fun k => k = bc) hK hKl (fun k hk => by subst hk; exact hlt) (fun k hk e => by subst e; exact hb hk) none (fun k o => k = bc ∧ o = comO r none) (fun k o hk => by obtain ⟨rfl, rfl⟩ := hk; exact ⟨hc, rfl⟩) ⟨0, fun _ => 0, ⟨rfl, rfl⟩, fun m k e => (by cases e), fun _ _ => rfl, fun i t e => (by cases e), fun i j t u e => (by cases e)⟩
/-- What the operations of New's region leave. -/
structure NdP (N r n : Nat) (i : Nat) (v : Value) (w : World) : Prop where
  r4 : i = 4 → ∃ b, v = .slice (some ⟨b, 0, none⟩) n n ∧ Me.Src w (some ⟨b, 0, none⟩) n n (List.replicate n 0)
  r6 : i = 6 → ∃ b, v = .pointer (some ⟨b, 0, none⟩) ∧ w.heap[b]? = some (comO r none) ∧ N ≤ b
  r7 : i = 7 → ∃ bc cs c1 c2 km lo hi, v = .map (some km) ∧ w.heap[bc]? = some (comO r none) ∧ KA bc cs c1 c2 w (fun k => lo ≤ k ∧ k < hi) km ∧ hi ≤ w.heap.size ∧ bc < lo ∧ N ≤ bc
theorem KA.kept {bc cs c1 c2 km : Nat} {W w : World} {K : Nat → Prop} (h : KA bc cs c1 c2 W K km) (hk : ∀ k, K k → w.heap[k]? = W.heap[k]?) : KA bc cs c1 c2 w K km := (dqL 0 bc cs c1 c2).kept (W := W) (w := w) (K := K) (km := km) h hk
theorem NdP.below {N r n i : Nat} {v : Value} {w w' : World} (h : NdP N r n i v w) (hB : Below w.heap.size w w') : NdP N r n i v w' := by
  have hl : ∀ {b o}, w.heap[b]? = some o → w'.heap[b]? = some o := fun hb => (hB.block _ (Array.getElem?_eq_some_iff.1 hb).1).trans hb
  refine ⟨fun e => ?_, fun e => ?_, fun e => ?_⟩
  · obtain ⟨b, h1, h2⟩ := h.r4 e
    exact ⟨b, h1, h2.below hB⟩
  · obtain ⟨b, h1, h2, h3⟩ := h.r6 e
    exact ⟨b, h1, hl h2, h3⟩
  · obtain ⟨bc, cs, c1, c2, km, lo, hi, h1, h2, h3, h4, h5⟩ := h.r7 e
    exact ⟨bc, cs, c1, c2, km, lo, hi, h1, hl h2, h3.kept (fun k hk => hB.block k (by omega)), Nat.le_trans h4 hB.size, h5⟩
def NewD (w : World) (nt r : Nat) (e : Ending) (w' : World) : Prop := ∃ q U K km bc cs c1 c2, e = .returned (.tuple #[.pointer (some ⟨q.b, 0, none⟩), .int .i64 0]) ∧ RG (dqL r bc cs c1 c2) w' U K q km (Pg.new nt (List.replicate (2 + r) 0) none) ∧ (∀ k, U k → w.heap.size ≤ k) ∧ (∀ k, K k → w.heap.size ≤ k) ∧ Below w.heap.size w w'
set_option maxHeartbeats 8000000 in
theorem newD_ok (w : World) (nt r : Nat) (h1 : 1 ≤ nt) (h2 : nt ≤ 16) (h3 : 1 ≤ r) (h4 : r ≤ 256) : Calls Tryz.prog 8 #[.agg #[.int .i64 (nt : Int), .int .i64 (r : Int)]] w (NewD w nt r) := by
  have hd : dqB (nt : Int) (r : Int) = true := by simp only [dqB, Bool.and_eq_true, decide_eq_true_eq]; omega
  obtain ⟨W0, hW0⟩ : ∃ W0, w.alloc (dBox nt r) = W0 := ⟨_, rfl⟩
  have s0 : W0.heap.size = w.heap.size + 1 := by rw [← hW0]; simp
  have B0 : Below w.heap.size w W0 := by rw [← hW0]; exact (Below.refl _ _).alloc (Nat.le_refl _) _
  have g0 : W0.heap[w.heap.size]? = some (dBox nt r) := by rw [← hW0]; exact heap_alloc_new w _
  have y0 : W0.cell? ⟨w.heap.size, 0, none⟩ = some (.int .i64 (nt : Int)) := cell_at g0 0
  have y1 : W0.cell? ⟨w.heap.size, 1, none⟩ = some (.int .i64 (r : Int)) := cell_at g0 1
  have ce : Hid (∀ W1, Below W0.heap.size W0 W1 → Below w.heap.size w W1.drew ∧ W1.drew.heap[w.heap.size]? = some (dBox nt r)) := Mr.hid (fun W1 hB => ⟨(B0.trans (hB.mono (by omega))).drew, (hB.block _ (by omega)).trans g0⟩)
  have CK := check_any nt r W0
  rw [if_pos hd] at CK
  have SZ := fun w => size_any nt r (by omega) w
  have CO := Mr.hid (fun w => commonOf_any nt r w)
  have KT := Mr.hid (fun w bc => kit_any w bc)
  have MK := mk_w (2 + r) (by omega)
  have NW := Mr.hid (fun (bc cs c1 c2 km b : Nat) (K : Nat → Prop) (w : World) (hs : Me.Src w (some ⟨b, 0, none⟩) (2 + r) (2 + r) (List.replicate (2 + r) 0)) (hc : w.heap[bc]? = some (comO r none)) (hK : KA bc cs c1 c2 w K km) (hKl : ∀ k, K k → k < w.heap.size) (hb : ¬ K bc) => newM_d (bc := bc) (cs := cs) (c1 := c1) (c2 := c2) (km := km) (K := K) (w := w) h1 h2 hs (by omega) hc hK hKl hb)
  have SM := src_made (2 + r)
  obtain ⟨n, hn⟩ : ∃ n, 2 + r = n := ⟨_, rfl⟩
  have NE : Hid (∀ e w', NewD w nt r e w' ↔ ∃ q U K km bc cs c1 c2, e = .returned (.tuple #[.pointer (some ⟨q.b, 0, none⟩), .int .i64 0]) ∧ RG (dqL r bc cs c1 c2) w' U K q km (Pg.new nt (List.replicate n 0) none) ∧ (∀ k, U k → w.heap.size ≤ k) ∧ (∀ k, K k → w.heap.size ≤ k) ∧ Below w.heap.size w w') := Mr.hid (fun e w' => by rw [← hn]; exact Iff.rfl)
  rw [hn] at SZ MK NW SM
  replace SZ := Mr.hid SZ
  replace SM := Mr.hid SM
  replace B0 := Mr.hid B0
  unfold dV at CK
  clear g0 hd hn
  unfold dBox at hW0
  go_enter Tryz.func8, Tryz.ntmps8
  go_wp2_with (first | (go_at_call 16; refine CK.mono ?_; clear CK; rintro e w1 ⟨rfl, B1⟩; have hS0 := ce.out _ B1; clear y0 y1 B1 hW0; replace hS0 := Mr.hid hS0))
  refine wp_region_held_drew (S := fun w' => Below w.heap.size w w' ∧ w'.heap[w.heap.size]? = some (dBox nt r)) (by kernel_rfl) hS0.out (fun hS => ?_)
  refine wpAnyH_take (i := 0) (oi := (⟨_, _, _, _, _, _⟩ : Oper)) (v := .pointer (some ⟨w.heap.size, 0, none⟩)) rfl (by kernel_rfl) (by kernel_rfl) (by kernel_rfl) (fun _ _ _ h => h) (Or.inl ⟨by kernel_rfl, fun w9 hw9 => ?y0⟩) hS ?_
  case y0 =>
    clear hS
    go_simp
  try simp only [Act.put, List.getElem_toArray, List.getElem_cons_zero, List.getElem_cons_succ, List.setIfInBounds_toArray, List.set_cons_zero, List.set_cons_succ]
  refine wpAnyH_take (i := 1) (oi := (⟨_, _, _, _, _, _⟩ : Oper)) (v := .int .i64 (nt : Int)) rfl (by kernel_rfl) (by kernel_rfl) (by kernel_rfl) (fun _ _ _ h => h) (Or.inl ⟨by kernel_rfl, fun w9 hw9 => ?y1⟩) hS ?_
  case y1 =>
    have y := cell_at hw9.2 0
    clear hS
    go_simp
  try simp only [Act.put, List.getElem_toArray, List.getElem_cons_zero, List.getElem_cons_succ, List.setIfInBounds_toArray, List.set_cons_zero, List.set_cons_succ]
  refine wpAnyH_take (i := 2) (oi := (⟨_, _, _, _, _, _⟩ : Oper)) (v := .agg #[.int .i64 (nt : Int), .int .i64 (r : Int)]) rfl (by kernel_rfl) (by kernel_rfl) (by kernel_rfl) (fun _ _ _ h => h) (Or.inl ⟨by kernel_rfl, fun w9 hw9 => ?y2⟩) hS ?_
  case y2 =>
    have y := cell_at hw9.2 0
    have y' := cell_at hw9.2 1
    clear hS
    go_simp
  try simp only [Act.put, List.getElem_toArray, List.getElem_cons_zero, List.getElem_cons_succ, List.setIfInBounds_toArray, List.set_cons_zero, List.set_cons_succ]
  refine wpAnyH_take (i := 5) (oi := (⟨_, _, _, _, _, _⟩ : Oper)) (v := .agg #[.int .i64 (nt : Int), .int .i64 (r : Int)]) rfl (by kernel_rfl) (by kernel_rfl) (by kernel_rfl) (fun _ _ _ h => h) (Or.inl ⟨by kernel_rfl, fun w9 hw9 => ?y5⟩) hS ?_
  case y5 =>
    have y := cell_at hw9.2 0
    have y' := cell_at hw9.2 1
    clear hS
    go_simp
  try simp only [Act.put, List.getElem_toArray, List.getElem_cons_zero, List.getElem_cons_succ, List.setIfInBounds_toArray, List.set_cons_zero, List.set_cons_succ]
  refine wpAnyH_ready (rs := [3]) (by kernel_rfl) (by simp) ?_
  refine AllReadyH.cons (o := (⟨_, _, _, _, _, _⟩ : Oper)) rfl (fun K hK => ?_) AllReadyH.nil
  try simp only [Act.put, List.getElem_toArray, List.getElem_cons_zero, List.getElem_cons_succ, List.setIfInBounds_toArray, List.set_cons_zero, List.set_cons_succ]
  have hSh := Mr.hid hS
  clear hS
  go_simp
  refine (SZ.out _).mono ?_
  rintro e w2 ⟨rfl, hw⟩
  refine hK.out _ _ (?sS) (fun hS => ?_)
  case sS => subst hw; exact ⟨hSh.out.1.alloc hSh.out.1.size _, (Below.heap_alloc _ _ _ (Array.getElem?_eq_some_iff.1 hSh.out.2).1).trans hSh.out.2⟩
  clear hK K hw hSh hS0
  try simp only [Act.put, List.getElem_toArray, List.getElem_cons_zero, List.getElem_cons_succ, List.setIfInBounds_toArray, List.set_cons_zero, List.set_cons_succ]
  have NN := Mr.hid (hS.1.size)
  refine wpAnyH_floats2 (S := fun w' => Below w.heap.size w w' ∧ w'.heap[w.heap.size]? = some (dBox nt r)) (al := [4, 6, 7]) (dep := fun i => if i = 7 then [6] else []) (fuel := 5) (by decide) (by kernel_rfl) (by kernel_rfl) (fun x => ⟨#[.agg #[.int .i64 (nt : Int), .int .i64 (r : Int)], .pointer (some ⟨w.heap.size, 0, none⟩), .pointer none, .int .i64 0, .int .i64 0, .agg #[.int .i64 (nt : Int), .int .i64 (r : Int)], .int .i64 0, .int .i64 0, .bool false, undef, .pointer (some ⟨w.heap.size, 0, none⟩), .int .i64 (nt : Int), .agg #[.int .i64 (nt : Int), .int .i64 (r : Int)], .int .i64 (n : Int), x 4, .agg #[.int .i64 (nt : Int), .int .i64 (r : Int)], x 6, x 7, undef, undef, undef], []⟩) (NdP w.heap.size r n) (fun w9 => w.heap.size ≤ w9.heap.size) (fun _ => undef) _ hS NN.out ?_ ?_
  · intro i hi x d w hS hG hd hdep K hK
    have hsb : ∀ w', Below w.heap.size w w' → Below _ _ w' ∧ w'.heap[_]? = some (dBox nt r) := fun w' hB => ⟨hS.1.trans (hB.mono hG), (hB.block _ (Array.getElem?_eq_some_iff.1 hS.2).1).trans hS.2⟩
    have hkp : ∀ w', Below w.heap.size w w' → ∀ j ∈ d, NdP _ r n j (x j) w' := fun w' hB j hj => (hd j hj).below hB
    replace hsb := Mr.hid hsb
    replace hkp := Mr.hid hkp
    replace hK := Mr.hid hK
    replace hG := Mr.hid hG
    clear hS NN
    simp only [List.mem_cons, List.not_mem_nil, or_false] at hi
    rcases hi with rfl | rfl | rfl
    · have b1 : Below w.heap.size w (w.alloc (.cells (madeCells #[.int .u64 0] n) 63)) := (Below.refl _ _).alloc (Nat.le_refl _) _
      have hf := hK.out _ _ (hsb.out _ b1) (Nat.le_trans hG.out b1.size) (hkp.out _ b1) ⟨fun _ => ⟨_, rfl, SM w⟩, fun e => by omega, fun e => by omega⟩
      replace hf := Mr.hid hf
      clear hd b1
      refine wpOp_step rfl (fun K' hK' => ?_)
      replace hK' := Mr.hid hK'
      try simp only [Act.put, List.getElem_toArray, List.getElem_cons_zero, List.getElem_cons_succ, List.setIfInBounds_toArray, List.set_cons_zero, List.set_cons_succ]
      go_simp
      exact hK'.out _ _ hf.out
    · clear hd
      refine wpOp_step rfl (fun K' hK' => ?_)
      replace hK' := Mr.hid hK'
      try simp only [Act.put, List.getElem_toArray, List.getElem_cons_zero, List.getElem_cons_succ, List.setIfInBounds_toArray, List.set_cons_zero, List.set_cons_succ]
      go_simp
      refine (CO.out _).mono ?_
      rintro e w3 ⟨rfl, rfl⟩
      have b1 : Below w.heap.size w ((w.alloc (dBox nt r)).alloc (comO r none)) := ((Below.refl _ _).alloc (Nat.le_refl _) _).alloc (by simp) _
      have hb : ((w.alloc (dBox nt r)).alloc (comO r none)).heap[w.heap.size + 1]? = some (comO r none) := by
        have := heap_alloc_new (w.alloc (dBox nt r)) (comO r none)
        rwa [World.size_alloc] at this
      exact hK'.out _ _ (hK.out _ _ (hsb.out _ b1) (Nat.le_trans hG.out b1.size) (hkp.out _ b1) ⟨fun e => by omega, fun _ => ⟨_, rfl, hb, by have := hG.out; omega⟩, fun e => by omega⟩)
    · obtain ⟨b, e6, hb, hNb⟩ := (hd 6 (hdep 6 (by simp))).r6 rfl
      have hf := fun u w2 hB2 => hK.out u w2 (hsb.out _ hB2) (Nat.le_trans hG.out (Below.size hB2)) (hkp.out _ hB2)
      have u6 : ∀ u, Cn.upd x 7 u 6 = .pointer (some ⟨b, 0, none⟩) := fun u => by rw [Cn.upd_ne x _ (by decide)]; exact e6
      have u4 : ∀ u, Cn.upd x 7 u 4 = x 4 := fun u => Cn.upd_ne x _ (by decide)
      have u7 : ∀ u, Cn.upd x 7 u 7 = u := fun u => Cn.upd_self _ _ _
      simp only [u6, u4, u7] at hf
      have hlb := (Array.getElem?_eq_some_iff.1 hb).1
      replace hf := Mr.hid hf
      replace hb := Mr.hid hb
      clear u6 u4 u7 hd hdep
      refine wpOp_step rfl (fun K' hK' => ?_)
      replace hK' := Mr.hid hK'
      simp only [e6]
      try simp only [Act.put, List.getElem_toArray, List.getElem_cons_zero, List.getElem_cons_succ, List.setIfInBounds_toArray, List.set_cons_zero, List.set_cons_succ]
      go_simp
      refine (KT.out w b).mono ?_
      rintro e w4 ⟨rfl, hKA, hB4⟩
      exact hK'.out _ _ (hf.out _ _ hB4 ⟨fun e => by omega, fun e => by omega, fun _ => ⟨b, _, _, _, _, w.heap.size, w4.heap.size, rfl, (hB4.block _ hlb).trans hb.out, hKA, Nat.le_refl _, hlb, hNb⟩⟩)
  · intro x w9 hS hG hd
    obtain ⟨b4, e4, hs4⟩ := (hd 4 (by simp)).r4 rfl
    obtain ⟨bc, cs, c1, c2, km, lo, hi, e7, hb, hKA, hhi, hlo, hNb⟩ := (hd 7 (by simp)).r7 rfl
    obtain ⟨b6, e6, _⟩ := (hd 6 (by simp)).r6 rfl
    clear hd
    (try dsimp only)
    simp only [e4, e6, e7]
    have NW1 := NW.out bc cs c1 c2 km b4 (fun k => lo ≤ k ∧ k < hi) w9 hs4 hb hKA (fun k hk => by omega) (fun hk => by omega)
    have hlob : Hid (w.heap.size ≤ lo ∧ w.heap.size ≤ bc) := Mr.hid ⟨by omega, hNb⟩
    clear NW hs4 hb hKA e4 e6 e7 hhi hlo hNb
    refine wpAnyH_ready (rs := [8]) (by kernel_rfl) (by simp) ?_
    refine AllReadyH.cons (o := (⟨_, _, _, _, _, _⟩ : Oper)) rfl (fun K hK => ?_) AllReadyH.nil
    try simp only [Act.put, List.getElem_toArray, List.getElem_cons_zero, List.getElem_cons_succ, List.setIfInBounds_toArray, List.set_cons_zero, List.set_cons_succ]
    have hSh := Mr.hid hS
    clear hS
    go_simp
    refine NW1.mono ?_
    clear NW1
    rintro e w5 ⟨q, U, rfl, hR, hU, hB⟩
    refine hK.out _ _ (?sS) (fun hS => ?_)
    case sS => exact ⟨hSh.out.1.trans (hB.mono hG), (hB.block _ (Array.getElem?_eq_some_iff.1 hSh.out.2).1).trans hSh.out.2⟩
    have fin := (NE.out (.returned (.tuple #[.pointer (some ⟨q.b, 0, none⟩), .int .i64 0])) w5.drew).2 ⟨q, U, _, km, bc, cs, c1, c2, rfl, hR.below (Below.refl _ _).drew, fun k hk => by rcases hU k hk with rfl | h; exact hlob.out.2; exact Nat.le_trans hG h, fun k hk => Nat.le_trans hlob.out.1 hk.1, hS.1.drew⟩
    have fin0 := (NE.out (.returned (.tuple #[.pointer (some ⟨q.b, 0, none⟩), .int .i64 0])) w5).2 ⟨q, U, _, km, bc, cs, c1, c2, rfl, hR, fun k hk => by rcases hU k hk with rfl | h; exact hlob.out.2; exact Nat.le_trans hG h, fun k hk => Nat.le_trans hlob.out.1 hk.1, hS.1⟩
    replace fin := Mr.hid fin
    replace fin0 := Mr.hid fin0
    clear hK K hSh hR hU hB NE hlob
    try simp only [Act.put, List.getElem_toArray, List.getElem_cons_zero, List.getElem_cons_succ, List.setIfInBounds_toArray, List.set_cons_zero, List.set_cons_succ]
    refine wpAnyH_take (i := 9) (oi := (⟨_, _, _, _, _, _⟩ : Oper)) (v := .pointer (some ⟨q.b, 0, none⟩)) rfl (by kernel_rfl) (by kernel_rfl) (by kernel_rfl) (fun _ _ _ h => h) (Or.inl ⟨by kernel_rfl, fun w9 hw9 => ?y9⟩) hS ?_
    case y9 =>
      clear hS
      go_simp
    try simp only [Act.put, List.getElem_toArray, List.getElem_cons_zero, List.getElem_cons_succ, List.setIfInBounds_toArray, List.set_cons_zero, List.set_cons_succ]
    refine wpAnyH_take (i := 10) (oi := (⟨_, _, _, _, _, _⟩ : Oper)) (v := .int .i64 0) rfl (by kernel_rfl) (by kernel_rfl) (by kernel_rfl) (fun _ _ _ h => h) (Or.inl ⟨by kernel_rfl, fun w9 hw9 => ?y10⟩) hS ?_
    case y10 =>
      clear hS
      go_simp
    try simp only [Act.put, List.getElem_toArray, List.getElem_cons_zero, List.getElem_cons_succ, List.setIfInBounds_toArray, List.set_cons_zero, List.set_cons_succ]
    refine wpAnyH_take (i := 11) (oi := (⟨_, _, _, _, _, _⟩ : Oper)) (v := .pointer (some ⟨q.b, 0, none⟩)) rfl (by kernel_rfl) (by kernel_rfl) (by kernel_rfl) (fun _ _ _ h => h) (Or.inl ⟨by kernel_rfl, fun w9 hw9 => ?y11⟩) hS ?_
    case y11 =>
      clear hS
      go_simp
    try simp only [Act.put, List.getElem_toArray, List.getElem_cons_zero, List.getElem_cons_succ, List.setIfInBounds_toArray, List.set_cons_zero, List.set_cons_succ]
    refine wpAnyH_take (i := 12) (oi := (⟨_, _, _, _, _, _⟩ : Oper)) (v := .int .i64 0) rfl (by kernel_rfl) (by kernel_rfl) (by kernel_rfl) (fun _ _ _ h => h) (Or.inl ⟨by kernel_rfl, fun w9 hw9 => ?y12⟩) hS ?_
    case y12 =>
      clear hS
      go_simp
    try simp only [Act.put, List.getElem_toArray, List.getElem_cons_zero, List.getElem_cons_succ, List.setIfInBounds_toArray, List.set_cons_zero, List.set_cons_succ]
    refine wpAnyH_done (by kernel_rfl) ?_ _
    clear hS
    go_wp2
    go_ret2
    exact fin0.out
end Go.Proofs.YtnapnhmmopajfaaGreat.Dm
/-
  MOVES as they lie in the world.
-/
namespace Go.Proofs.YtnapnhmmopajfaaGreat.Ma
open Go.RowKit Go.Shelf Mr Me
/-- A move. -/
structure Mv where
  th : Int
  op : Int
  arg : Int
  data : Int
def noMv : Mv := ⟨0, 0, 0, 0⟩
/-- The slice value .slice a n cap reads as the moves ms. -/
def MvAt (W : World) (a : Option Addr) (n : Nat) (ms : List Mv) : Prop :=
  n = ms.length ∧ (ms = [] ∨ ∃ b off, a = some ⟨b, off, none⟩ ∧ b < W.heap.size ∧ ∀ j, j < ms.length →
    W.cell? ⟨b, off + j * 4, none⟩ = some (.int .i64 (ms[j]?.getD noMv).th) ∧ W.cell? ⟨b, off + j * 4 + 1, none⟩ = some (.int .i64 (ms[j]?.getD noMv).op) ∧ W.cell? ⟨b, off + j * 4 + 2, none⟩ = some (.int .i64 (ms[j]?.getD noMv).arg) ∧ W.cell? ⟨b, off + j * 4 + 3, none⟩ = some (.int .i64 (ms[j]?.getD noMv).data))
theorem MvAt.below {W W' : World} {a : Option Addr} {n : Nat} {ms : List Mv} (h : MvAt W a n ms) (hB : Below W.heap.size W W') : MvAt W' a n ms := by
  refine ⟨h.1, ?_⟩
  rcases h.2 with h | ⟨b, off, rfl, hb, hc⟩
  · exact .inl h
  · refine .inr ⟨b, off, rfl, Nat.lt_of_lt_of_le hb hB.size, fun j hj => ?_⟩
    obtain ⟨c0, c1, c2, c3⟩ := hc j hj
    exact ⟨(hB.cell (p := ⟨b, _, none⟩) hb).trans c0, (hB.cell (p := ⟨b, _, none⟩) hb).trans c1, (hB.cell (p := ⟨b, _, none⟩) hb).trans c2, (hB.cell (p := ⟨b, _, none⟩) hb).trans c3⟩
end Go.Proofs.YtnapnhmmopajfaaGreat.Ma
