/-
  THE DOCUMENT'S MEMORY (reclaimref02) as it lies in the world; there, note, Load, Store, Swap by their contracts.
-/
import Derived.Test.YtilbkminekojcaaMemAcc
import Derived.Test.YtilbkminekojcaaMemIter
namespace Go.Proofs.Ytilbkminekojcaa.Me
open Go.RowKit Mr
set_option linter.unusedVariables false
structure Rm (W : World) (S : Nat → Prop) (b : Nat) (vf vn vt : Value) (fs ws : List Int) (lg : List Acc) (mv : Int) : Prop where
  blk : W.heap[b]? = some (.cells #[vf, vn, vt, .int .i64 mv] 60 (0, 0))
  inb : S b
  hf : Has W S 31 1 vf fs.length (wrd fs)
  hn : Has W S 31 1 vn ws.length (wrd ws)
  ht : Has W S 41 7 vt lg.length (lgc lg)
  ne : ∀ k, vf.ownBlock = some k → vn.ownBlock ≠ some k
  len : ws.length ≤ 8192
  fle : fs.length ≤ 8192
section
variable {W : World} {S : Nat → Prop} {b : Nat} {vf vn vt : Value} {fs ws : List Int} {lg : List Acc} {mv : Int}
theorem Rm.lt (h : Rm W S b vf vn vt fs ws lg mv) : b < W.heap.size := (Array.getElem?_eq_some_iff.1 h.blk).1
theorem Rm.c0 (h : Rm W S b vf vn vt fs ws lg mv) : W.cell? ⟨b, 0, none⟩ = some vf := by simp [World.cell?, h.blk]
theorem Rm.c1 (h : Rm W S b vf vn vt fs ws lg mv) : W.cell? ⟨b, 1, none⟩ = some vn := by simp [World.cell?, h.blk]
theorem Rm.c2 (h : Rm W S b vf vn vt fs ws lg mv) : W.cell? ⟨b, 2, none⟩ = some vt := by simp [World.cell?, h.blk]
theorem Rm.c3 (h : Rm W S b vf vn vt fs ws lg mv) : W.cell? ⟨b, 3, none⟩ = some (.int .i64 mv) := by simp [World.cell?, h.blk]
theorem Rm.fz (h : Rm W S b vf vn vt fs ws lg mv) (o : Nat) : W.frozen? ⟨b, o, none⟩ = false := by simp [World.frozen?, h.blk]
theorem Rm.mono {T : Nat → Prop} (h : Rm W S b vf vn vt fs ws lg mv) (hT : ∀ k, S k → T k) : Rm W T b vf vn vt fs ws lg mv :=
  ⟨h.blk, hT b h.inb, h.hf.mono hT, h.hn.mono hT, h.ht.mono hT, h.ne, h.len, h.fle⟩
theorem Rm.kept {W' : World} (h : Rm W S b vf vn vt fs ws lg mv) (hk : ∀ k, S k → k < W.heap.size → W'.heap[k]? = W.heap[k]?) : Rm W' S b vf vn vt fs ws lg mv :=
  ⟨(hk b h.inb h.lt).trans h.blk, h.inb, h.hf.kept (fun k e => hk k (h.hf.lt k e).1 (h.hf.lt k e).2) (fun k e => (h.hf.lt k e).1),
    h.hn.kept (fun k e => hk k (h.hn.lt k e).1 (h.hn.lt k e).2) (fun k e => (h.hn.lt k e).1), h.ht.kept (fun k e => hk k (h.ht.lt k e).1 (h.ht.lt k e).2) (fun k e => (h.ht.lt k e).1), h.ne, h.len, h.fle⟩
theorem Rm.below {W' : World} (h : Rm W S b vf vn vt fs ws lg mv) (hb : Below W.heap.size W W') : Rm W' S b vf vn vt fs ws lg mv :=
  h.kept fun k _ hk => hb.block k hk
theorem Rm.fr {W' : World} {T : Nat → Prop} (h : Rm W S b vf vn vt fs ws lg mv) (hb : Fr W W' T) (hd : ∀ k, S k → k < W.heap.size → ¬ T k) : Rm W' S b vf vn vt fs ws lg mv :=
  h.kept fun k hs hk => hb.block k hk (hd k hs hk)
theorem Rm.narrow (h : Rm W S b vf vn vt fs ws lg mv) : Rm W (fun k => S k ∧ k < W.heap.size) b vf vn vt fs ws lg mv :=
  ⟨h.blk, ⟨h.inb, h.lt⟩, h.hf.kept (fun _ _ => rfl) (fun k e => h.hf.lt k e), h.hn.kept (fun _ _ => rfl) (fun k e => h.hn.lt k e), h.ht.kept (fun _ _ => rfl) (fun k e => h.ht.lt k e), h.ne, h.len, h.fle⟩
theorem has_far2 {W : World} {S : Nat → Prop} {e size n : Nat} {v : Value} {xs : List Value} (h : Has W S e size v n xs) {j t : Nat} {cur : Array Value} {f : Nat × Nat} (hj : W.heap[j]? = some (.cells cur t f)) (ht : t ≠ e) : v.ownBlock ≠ some j := fun e' => by
  rcases h.2 with ⟨rfl, _⟩ | ⟨g, cap, c2, rfl, _, hg, _⟩
  · simp [Value.ownBlock] at e'
  · simp [Value.ownBlock] at e'
    subst e'
    rw [hg] at hj
    simp at hj
    exact ht hj.2.1.symm
theorem Rm.bf (h : Rm W S b vf vn vt fs ws lg mv) : vf.ownBlock ≠ some b := has_far2 h.hf h.blk (by decide)
theorem Rm.bn (h : Rm W S b vf vn vt fs ws lg mv) : vn.ownBlock ≠ some b := has_far2 h.hn h.blk (by decide)
theorem Rm.bt (h : Rm W S b vf vn vt fs ws lg mv) : vt.ownBlock ≠ some b := has_far2 h.ht h.blk (by decide)
theorem Rm.at (h : Rm W S b vf vn vt fs ws lg mv) (i : Nat) (hi : i < ws.length) : ∃ gw cw, vn = .slice (some ⟨gw, 0, none⟩) ws.length cw ∧ W.cell? ⟨gw, i, none⟩ = some (.int .u64 (ws[i]?.getD 0)) ∧ W.frozen? ⟨gw, i, none⟩ = false ∧ W.cell? ⟨b, 1, none⟩ = some (.slice (some ⟨gw, 0, none⟩) ws.length cw) := by
  obtain ⟨gw, cw, hvw, hgS, hgl, hgc, hgm⟩ := h.hn.there (by omega)
  refine ⟨gw, cw, hvw, h.hn.cells (g := gw) (by rw [hvw]; rfl) i _ (wrd_get ws i hi), h.hn.frozen (g := gw) (by rw [hvw]; rfl) i, ?_⟩
  rw [← hvw]; exact h.c1
theorem there_yes (h : Rm W S b vf vn vt fs ws lg mv) (ad : Int) (h0 : 0 ≤ ad) (h1 : ad < ws.length) :
    Calls Try.prog 47 #[.pointer (some ⟨b, 0, none⟩), .int .i64 ad] W fun e w' => e = .returned (.bool true) ∧ w' = W := by
  obtain ⟨a, cap, rfl, _⟩ := h.hn.form
  have c1 := h.c1
  generalize ws.length = n at *
  clear h
  go_enter Try.func47, Try.ntmps47
  go_wp2
  go_ret
  exact ⟨rfl, rfl⟩
theorem there_no (h : Rm W S b vf vn vt fs ws lg mv) (ad : Int) (h0 : ad < 0 ∨ ws.length ≤ ad) :
    Calls Try.prog 47 #[.pointer (some ⟨b, 0, none⟩), .int .i64 ad] W fun e w' => e = .returned (.bool false) ∧ w' = W := by
  obtain ⟨a, cap, rfl, _⟩ := h.hn.form
  have c1 := h.c1
  generalize ws.length = n at *
  clear h
  by_cases h1 : 0 ≤ ad
  · have h2 : decide (ad < (n : Int)) = false := by simp; omega
    clear h0
    go_enter Try.func47, Try.ntmps47
    go_wp2
    go_ret
    exact ⟨rfl, rfl⟩
  · have h2 : ad < 0 := by omega
    clear h0 h1
    go_enter Try.func47, Try.ntmps47
    go_wp2
    go_ret
    exact ⟨rfl, rfl⟩
theorem Rm.noted (h : Rm W S b vf vn vt fs ws lg mv) {w0 w1 : World} (hB : Below W.heap.size W w0) {v' : Value} {a : Acc} {n : Nat} (hn : n = lg.length + 1)
    (hown : Has w1 (fun k => S k ∨ W.heap.size ≤ k) 41 7 v' n (lgc lg ++ a.cells)) (hgrow : w0.grownBy w1 vt.ownBlock) :
    Rm (w1.setCell ⟨b, 2, none⟩ v') (fun k => S k ∨ W.heap.size ≤ k) b vf vn v' fs ws (lg ++ [a]) mv ∧ Fr W (w1.setCell ⟨b, 2, none⟩ v') S := by
  subst hn
  have hb : w1.heap[b]? = some (.cells #[vf, vn, vt, .int .i64 mv] 60 (0, 0)) := (h.below hB).blk ▸ hgrow.block b (Nat.lt_of_lt_of_le h.lt hB.size) (fun e => h.bt e.symm)
  have hf1 : Has w1 S 31 1 vf fs.length (wrd fs) := (h.hf.below hB).grown hgrow (fun k hk e => has_ne h.ht h.hf (by decide) k e hk)
  have hn1 : Has w1 S 31 1 vn ws.length (wrd ws) := (h.hn.below hB).grown hgrow (fun k hk e => has_ne h.ht h.hn (by decide) k e hk)
  have hv' : v'.ownBlock ≠ some b := has_far2 hown hb (by decide)
  refine ⟨⟨?_, .inl h.inb, (hf1.setCell _ _ h.bf).mono (fun _ => .inl), (hn1.setCell _ _ h.bn).mono (fun _ => .inl), ?_, h.ne, h.len, h.fle⟩, ?_⟩
  · rw [setBlk hb]; rfl
  · have : (lg ++ [a]).length = lg.length + 1 := by simp
    rw [lgc_snoc, this]
    exact hown.setCell _ _ hv'
  · exact ((Fr.of_below hB).grown hgrow (fun k hk => .inl (h.ht.lt k hk).1)).setCell _ _ (.inl h.inb)
set_option maxRecDepth 100000 in
set_option maxHeartbeats 2000000 in
theorem rnote_any (h : Rm W S b vf vn vt fs ws lg mv) (hb : (lg.length + 1 + (lg.length + 1) / 4 + 192) * 56 ≤ 281474976710656) (x0 th kd ad old new saw : Int) :
    Calls Try.prog 48 #[.pointer (some ⟨b, 0, none⟩), .agg #[.int .i64 x0, .int .i64 th, .int .i64 kd, .int .i64 ad, .int .u64 old, .int .u64 new, .int .u64 saw]] W fun e w' =>
      e = .returned (.tuple #[]) ∧ (∃ vt', Rm w' (fun k => S k ∨ W.heap.size ≤ k) b vf vn vt' fs ws (lg ++ [⟨x0, th, kd, ad, old, new, saw⟩]) mv) ∧ Fr W w' S := by
  obtain ⟨i0, hi, hz0, hz1, hz2⟩ := info_parts info_acc
  have hlt := h.lt
  obtain ⟨a, cap, hv, hle⟩ := h.ht.form
  subst hv
  have c2 : ∀ o, (W.alloc o).cell? ⟨b, 2, none⟩ = some (.slice a lg.length cap) := fun o => by rw [World.cell?_alloc_past _ _ _ hlt]; exact h.c2
  have hne : W.heap.size ≠ b := by omega
  have law : ∀ (w0 : World), Below W.heap.size W w0 → Has w0 (fun k => S k ∨ W.heap.size ≤ k) 41 7 (.slice a lg.length cap) lg.length (lgc lg) := fun w0 B => (h.ht.below B).mono (fun _ => .inl)
  have hB2 : ∀ o p, Below W.heap.size W ((W.alloc o).alloc p).drew := fun o p => Below.drew (((Below.refl _ _).alloc (Nat.le_refl _) o).alloc (by simp) p)
  go_enter Try.func48, Try.ntmps48
  go_wp2
  go_region_law (refine step_append_has _ rfl (.tmp 8) (.tmp 10) 35 rfl (fun k => S k ∨ W.heap.size ≤ k) 41 i0 _ 7 56 Try.underlying35 hi hz0 hz1 hz2 rfl (.slice a lg.length cap) lg.length (lgc lg) (by simp [Act.eval]) (law _ (hB2 _ _)) ⟨W.heap.size + 1, 0, none⟩ 1 1 [.int .i64 x0, .int .i64 th, .int .i64 kd, .int .i64 ad, .int .u64 old, .int .u64 new, .int .u64 saw] (by simp [Act.eval]) rfl (newsAt (W.alloc _) _ #[.int .i64 x0, .int .i64 th, .int .i64 kd, .int .i64 ad, .int .u64 old, .int .u64 new, .int .u64 saw] 41 _ (by simp) rfl) (by simp [Value.oneCell']) (by omega) (by unfold maxLen; omega) hb (by right; simp; omega) ?_; intro g cap' w1 hown hgrow hat; have kb : w1.heap[b]? = some (.cells #[vf, vn, .slice a lg.length cap, .int .i64 mv] 60 (0, 0)) := ((h.below (hB2 _ _)).blk ▸ hgrow.block b (Nat.lt_of_lt_of_le hlt (hB2 _ _).size) (fun e => h.bt e.symm)); have kc : w1.cell? ⟨b, 2, none⟩ = some (.slice a lg.length cap) := (by simp [World.cell?, kb]); have kf : w1.frozen? ⟨b, 2, none⟩ = false := (by simp [World.frozen?, kb]))
  all_goals (go_wp2; go_end0; obtain ⟨hm, hf⟩ := h.noted (a := ⟨x0, th, kd, ad, old, new, saw⟩) (hB2 _ _) rfl hown hgrow; exact ⟨rfl, ⟨_, hm⟩, hf⟩)
theorem rload_no (h : Rm W S b vf vn vt fs ws lg mv) (th ad : Int) (h0 : ad < 0 ∨ ws.length ≤ ad) :
    Calls Try.prog 38 #[.pointer (some ⟨b, 0, none⟩), .int .i64 th, .int .i64 ad] W fun e w' => e = .returned (.tuple #[.int .u64 0, .int .i64 20]) ∧ w' = W := by
  have C := there_no h ad h0
  clear h h0
  go_enter Try.func38, Try.ntmps38
  go_wp2_with (go_at_call 47; refine C.mono ?_; rintro e w' ⟨rfl, rfl⟩)
  go_ret2
  exact ⟨rfl, rfl⟩
theorem rstore_no (h : Rm W S b vf vn vt fs ws lg mv) (th ad x : Int) (h0 : ad < 0 ∨ ws.length ≤ ad) :
    Calls Try.prog 39 #[.pointer (some ⟨b, 0, none⟩), .int .i64 th, .int .i64 ad, .int .u64 x] W fun e w' => e = .returned (.int .i64 20) ∧ w' = W := by
  have C := there_no h ad h0
  clear h h0
  go_enter Try.func39, Try.ntmps39
  go_wp2_with (go_at_call 47; refine C.mono ?_; rintro e w' ⟨rfl, rfl⟩)
  go_ret
  exact ⟨rfl, rfl⟩
theorem rswap_no (h : Rm W S b vf vn vt fs ws lg mv) (th ad old x : Int) (h0 : ad < 0 ∨ ws.length ≤ ad) :
    Calls Try.prog 40 #[.pointer (some ⟨b, 0, none⟩), .int .i64 th, .int .i64 ad, .int .u64 old, .int .u64 x] W fun e w' => e = .returned (.tuple #[.int .u64 0, .bool false, .int .i64 20]) ∧ w' = W := by
  have C := there_no h ad h0
  clear h h0
  go_enter Try.func40, Try.ntmps40
  go_wp2_with (go_at_call 47; refine C.mono ?_; rintro e w' ⟨rfl, rfl⟩)
  go_ret3
  exact ⟨rfl, rfl⟩
theorem Rm.put (h : Rm W S b vf vn vt fs ws lg mv) {gw cw : Nat} (hvw : vn = .slice (some ⟨gw, 0, none⟩) ws.length cw) (i : Nat) (x : Int) :
    Rm (W.setCell ⟨gw, i, none⟩ (.int .u64 x)) S b vf vn vt fs (ws.set i x) lg mv ∧ Fr W (W.setCell ⟨gw, i, none⟩ (.int .u64 x)) S := by
  have hgw := h.hn.lt gw (by rw [hvw]; rfl)
  have hgb : gw ≠ b := fun e => h.bn (by rw [hvw, e]; rfl)
  refine ⟨⟨?_, h.inb, ?_, ?_, ?_, h.ne, by simpa using h.len, h.fle⟩, (Fr.refl _ _).setCell _ _ (.inl hgw.1)⟩
  · rw [Below.heap_setCell _ _ _ b (fun e => hgb e.symm)]; exact h.blk
  · exact h.hf.setCell _ _ (fun e => h.ne gw e (by rw [hvw]; rfl))
  · rw [wrd_set, List.length_set]
    have := h.hn
    rw [hvw] at this ⊢
    exact has_store this i _
  · exact h.ht.setCell _ _ (fun e => has_ne h.ht h.hn (by decide) gw e (by rw [hvw]; rfl))
set_option maxRecDepth 100000 in
theorem rload_ok (h : Rm W S b vf vn vt fs ws lg mv) (hb : (lg.length + 1 + (lg.length + 1) / 4 + 192) * 56 ≤ 281474976710656) (th : Int) (i : Nat) (hi : i < ws.length) :
    Calls Try.prog 38 #[.pointer (some ⟨b, 0, none⟩), .int .i64 th, .int .i64 i] W fun e w' => e = .returned (.tuple #[.int .u64 (ws[i]?.getD 0), .int .i64 0]) ∧
      (∃ vt', Rm w' (fun k => S k ∨ W.heap.size ≤ k) b vf vn vt' fs ws (lg ++ [⟨mv, th, 1, i, 0, 0, ws[i]?.getD 0⟩]) mv) ∧ Fr W w' S := by
  have C := there_yes h i (by omega) (by omega)
  have D := rnote_any h hb mv th 1 i 0 0 (ws[i]?.getD 0)
  obtain ⟨gw, cw, hvw, c1, f1, c0⟩ := h.at i hi
  have c3 := h.c3
  generalize ws[i]?.getD 0 = y at *
  have hi := Mr.hid hi
  have hi' : i < ws.length := hi.out
  generalize ws.length = n at *
  have h := Mr.hid h
  clear hb
  go_enter Try.func38, Try.ntmps38
  go_wp2_with (first | (go_at_call 47; refine C.mono ?_; rintro e w' ⟨rfl, rfl⟩) | (go_at_call 48; refine D.mono ?_; rintro e w1 ⟨rfl, hm, hf⟩))
  go_ret2
  exact ⟨rfl, hm, hf⟩
theorem rput_note (h : Rm W S b vf vn vt fs ws lg mv) (hb : (lg.length + 1 + (lg.length + 1) / 4 + 192) * 56 ≤ 281474976710656) {gw cw : Nat} (hvw : vn = .slice (some ⟨gw, 0, none⟩) ws.length cw) (i : Nat) (x : Int) (x0 th kd ad old new saw : Int) :
    Calls Try.prog 48 #[.pointer (some ⟨b, 0, none⟩), .agg #[.int .i64 x0, .int .i64 th, .int .i64 kd, .int .i64 ad, .int .u64 old, .int .u64 new, .int .u64 saw]] (W.setCell ⟨gw, i, none⟩ (.int .u64 x)) fun e w' =>
      e = .returned (.tuple #[]) ∧ (∃ vt', Rm w' (fun k => S k ∨ W.heap.size ≤ k) b vf vn vt' fs (ws.set i x) (lg ++ [⟨x0, th, kd, ad, old, new, saw⟩]) mv) ∧ Fr W w' S := by
  obtain ⟨h1, h2⟩ := h.put hvw i x
  refine (rnote_any h1 hb x0 th kd ad old new saw).mono ?_
  rintro e w' ⟨rfl, ⟨vt', hm⟩, hf⟩
  have e1 : (W.setCell ⟨gw, i, none⟩ (.int .u64 x)).heap.size = W.heap.size := by simp
  rw [e1] at hm
  exact ⟨rfl, ⟨vt', hm⟩, h2.trans (hf.mono (fun _ => .inl))⟩
set_option maxRecDepth 100000 in
theorem rstore_ok (h : Rm W S b vf vn vt fs ws lg mv) (hb : (lg.length + 1 + (lg.length + 1) / 4 + 192) * 56 ≤ 281474976710656) (th x : Int) (i : Nat) (hi : i < ws.length) :
    Calls Try.prog 39 #[.pointer (some ⟨b, 0, none⟩), .int .i64 th, .int .i64 i, .int .u64 x] W fun e w' => e = .returned (.int .i64 0) ∧
      (∃ vt', Rm w' (fun k => S k ∨ W.heap.size ≤ k) b vf vn vt' fs (ws.set i x) (lg ++ [⟨mv, th, 2, i, 0, x, 0⟩]) mv) ∧ Fr W w' S := by
  have C := there_yes h i (by omega) (by omega)
  obtain ⟨gw, cw, hvw, c1, f1, c0⟩ := h.at i hi
  have D := rput_note h hb hvw i x mv th 2 i 0 x 0
  have hgb : gw ≠ b := fun e => h.bn (by rw [hvw, e]; rfl)
  have hlt := h.lt
  have c3 := h.c3
  generalize ws[i]?.getD 0 = y at *
  have hi := Mr.hid hi
  have hi' : i < ws.length := hi.out
  generalize ws.length = n at *
  have h := Mr.hid h
  clear hb
  go_enter Try.func39, Try.ntmps39
  go_wp2_with (first | (go_at_call 47; refine C.mono ?_; rintro e w' ⟨rfl, rfl⟩) | (go_at_call 48; refine D.mono ?_; rintro e w1 ⟨rfl, hm, hf⟩))
  go_ret
  exact ⟨rfl, hm, hf⟩
set_option maxRecDepth 100000 in
theorem rswap_hit (h : Rm W S b vf vn vt fs ws lg mv) (hb : (lg.length + 1 + (lg.length + 1) / 4 + 192) * 56 ≤ 281474976710656) (th old x : Int) (i : Nat) (hi : i < ws.length) (ho : ws[i]?.getD 0 = old) :
    Calls Try.prog 40 #[.pointer (some ⟨b, 0, none⟩), .int .i64 th, .int .i64 i, .int .u64 old, .int .u64 x] W fun e w' => e = .returned (.tuple #[.int .u64 old, .bool true, .int .i64 0]) ∧
      (∃ vt', Rm w' (fun k => S k ∨ W.heap.size ≤ k) b vf vn vt' fs (ws.set i x) (lg ++ [⟨mv, th, 3, i, old, x, old⟩]) mv) ∧ Fr W w' S := by
  have C := there_yes h i (by omega) (by omega)
  obtain ⟨gw, cw, hvw, c1, f1, c0⟩ := h.at i hi
  have D := rput_note h hb hvw i x mv th 3 i old x old
  have hgb : gw ≠ b := fun e => h.bn (by rw [hvw, e]; rfl)
  have hlt := h.lt
  have c3 := h.c3
  rw [ho] at c1
  clear ho
  have hi := Mr.hid hi
  have hi' : i < ws.length := hi.out
  generalize ws.length = n at *
  have h := Mr.hid h
  have hq : (old == old) = true := by simp
  clear hb
  go_enter Try.func40, Try.ntmps40
  go_wp2_with (first | (go_at_call 47; refine C.mono ?_; rintro e w' ⟨rfl, rfl⟩) | (go_at_call 48; refine D.mono ?_; rintro e w1 ⟨rfl, hm, hf⟩))
  go_ret3
  exact ⟨rfl, hm, hf⟩
set_option maxRecDepth 100000 in
theorem rswap_miss (h : Rm W S b vf vn vt fs ws lg mv) (hb : (lg.length + 1 + (lg.length + 1) / 4 + 192) * 56 ≤ 281474976710656) (th old x : Int) (i : Nat) (hi : i < ws.length) (ho : ws[i]?.getD 0 ≠ old) :
    Calls Try.prog 40 #[.pointer (some ⟨b, 0, none⟩), .int .i64 th, .int .i64 i, .int .u64 old, .int .u64 x] W fun e w' => e = .returned (.tuple #[.int .u64 (ws[i]?.getD 0), .bool false, .int .i64 0]) ∧
      (∃ vt', Rm w' (fun k => S k ∨ W.heap.size ≤ k) b vf vn vt' fs ws (lg ++ [⟨mv, th, 3, i, old, x, ws[i]?.getD 0⟩]) mv) ∧ Fr W w' S := by
  have C := there_yes h i (by omega) (by omega)
  have D := rnote_any h hb mv th 3 i old x (ws[i]?.getD 0)
  obtain ⟨gw, cw, hvw, c1, f1, c0⟩ := h.at i hi
  have c3 := h.c3
  generalize ws[i]?.getD 0 = y at *
  have hi := Mr.hid hi
  have hi' : i < ws.length := hi.out
  generalize ws.length = n at *
  have h := Mr.hid h
  have hq : (y == old) = false := by simpa using ho
  clear hb
  go_enter Try.func40, Try.ntmps40
  go_wp2_with (first | (go_at_call 47; refine C.mono ?_; rintro e w' ⟨rfl, rfl⟩) | (go_at_call 48; refine D.mono ?_; rintro e w1 ⟨rfl, hm, hf⟩))
  go_ret3
  exact ⟨rfl, hm, hf⟩
end
end Go.Proofs.Ytilbkminekojcaa.Me
