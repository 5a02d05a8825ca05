import Derived.Test.YtkimmfdicohoiaaGreatJ01
import Derived.Deep.RegionLaw
/-
  note and write by their contracts.
-/
namespace Go.Proofs.YtkimmfdicohoiaaGreat.Me
open Go.RowKit Mr
theorem setBlk {W : World} {b : Nat} {cs : Array Value} {t : TypeId} {fr : Nat × Nat} (h : W.heap[b]? = some (.cells cs t fr)) (o : Nat) (v : Value) : (W.setCell ⟨b, o, none⟩ v).heap[b]? = some (.cells (cs.setIfInBounds o v) t fr) := by
  obtain ⟨hlt, hk⟩ := Array.getElem?_eq_some_iff.1 h
  show (W.heap.modify b _)[b]? = _
  rw [Array.getElem?_eq_getElem (by rw [Array.size_modify]; exact hlt), Array.getElem_modify_self, hk]
  rfl
theorem newsAt (w w' : World) (cs : Array Value) (t : TypeId) (B : Nat) (hB : B = w.heap.size) (hw : w'.heap = (w.alloc (.cells cs t)).heap) : ∀ j u, cs.toList[j]? = some u → w'.cell? ((⟨B, 0, none⟩ : Addr).add j) = some u := by
  subst hB
  exact World.news_of_block (by rw [hw]; exact heap_alloc_new w _)
section
variable {W : World} {S : Nat → Prop} {b : Nat} {vw vl va : Value} {ws : List Int} {mv : Int} {lg : List Acc} {ah : List Int}
theorem Mem.grow1 (h : Mem W S b vw vl va ws mv lg ah) {w0 w1 : World} {row : Option Nat} (hB : Below W.heap.size W w0) (hgrow : w0.grownBy w1 row) (hne : row ≠ some b) : w1.heap[b]? = some (.cells #[vw, .int .i64 mv, vl, va] 171 (0, 0)) :=
  ((hgrow.block b (Nat.lt_of_lt_of_le h.lt hB.size) (fun e => hne e.symm)).trans (hB.block b h.lt)).trans h.blk
theorem Mem.noted (h : Mem W S b vw vl va ws mv lg ah) {w0 w1 : World} (hB : Below W.heap.size W w0) {v' : Value} {a : Acc} {n : Nat} (hn : n = lg.length + 1)
    (hown : Has w1 (fun k => S k ∨ W.heap.size ≤ k) 94 7 v' n (lgc lg ++ a.cells)) (hgrow : w0.grownBy w1 vl.ownBlock) :
    Mem (w1.setCell ⟨b, 2, none⟩ v') (fun k => S k ∨ W.heap.size ≤ k) b vw v' va ws mv (lg ++ [a]) ah ∧ Fr W (w1.setCell ⟨b, 2, none⟩ v') S := by
  subst hn
  have hb := h.grow1 hB hgrow h.bl
  have hb' : v'.ownBlock ≠ some b := fun e => by
    rcases hown.2 with ⟨rfl, _⟩ | ⟨g, _, cur, rfl, _, hg, _⟩
    · simp [Value.ownBlock] at e
    · simp [Value.ownBlock] at e; subst e; rw [hb] at hg; simp at hg
  have hw1 : Has w1 S 92 1 vw ws.length (wrd ws) := (h.hw.below hB).grown hgrow (fun k hk e => has_ne h.hw h.hl (by decide) k hk e)
  have ha1 : Has w1 S 92 1 va ah.length (wrd ah) := (h.ha.below hB).grown hgrow (fun k hk e => has_ne h.ha h.hl (by decide) k hk e)
  refine ⟨⟨by rw [setBlk hb]; rfl, .inl h.inb, (hw1.setCell _ _ h.bw).mono (fun _ => .inl), ?_, (ha1.setCell _ _ h.ba).mono (fun _ => .inl), h.ne, h.len⟩, ?_⟩
  · rw [lgc_snoc]
    have : (lg ++ [a]).length = lg.length + 1 := by simp
    rw [this]
    exact hown.setCell _ _ hb'
  · exact ((Fr.of_below hB).grown hgrow (fun k hk => .inl (h.hl.lt k hk).1)).setCell _ _ (.inl h.inb)

set_option maxRecDepth 100000 in
set_option maxHeartbeats 2000000 in
theorem note_any (h : Mem W S b vw vl va ws mv lg ah) (hb : (lg.length + 1 + (lg.length + 1) / 4 + 192) * 56 ≤ 281474976710656) (x0 th kd ad old new saw : Int) :
    Calls Tryz.prog 143 #[.pointer (some ⟨b, 0, none⟩), .agg #[.int .i64 x0, .int .i64 th, .int .i64 kd, .int .i64 ad, .int .u64 old, .int .u64 new, .int .u64 saw]] W fun e w' =>
      e = .returned (.tuple #[]) ∧ (∃ vl', Mem w' (fun k => S k ∨ W.heap.size ≤ k) b vw vl' va ws mv (lg ++ [⟨mv, th, kd, ad, old, new, saw⟩]) ah) ∧ Fr W w' S := by
  obtain ⟨i0, hi, hz0, hz1, hz2⟩ := info_parts info_acc
  have hlt := h.lt
  obtain ⟨a, cap, hv, hle⟩ := h.hl.form
  subst hv
  have c1 : (W.alloc (.cells #[.int .i64 x0, .int .i64 th, .int .i64 kd, .int .i64 ad, .int .u64 old, .int .u64 new, .int .u64 saw] 94)).cell? ⟨b, 1, none⟩ = some (.int .i64 mv) := by rw [World.cell?_alloc_past _ _ _ hlt]; exact h.c1
  have c2 : ∀ o, (W.alloc o).cell? ⟨b, 2, none⟩ = some (.slice a lg.length cap) := fun o => by rw [World.cell?_alloc_past _ _ _ hlt]; exact h.c2
  have hne : W.heap.size ≠ b := by omega
  have law : ∀ (w0 : World), Below W.heap.size W w0 → Has w0 (fun k => S k ∨ W.heap.size ≤ k) 94 7 (.slice a lg.length cap) lg.length (lgc lg) := fun w0 B => (h.hl.below B).mono (fun _ => .inl)
  have hB2 : ∀ o p, Below W.heap.size W ((W.alloc o).alloc p).drew := fun o p => Below.drew (((Below.refl _ _).alloc (Nat.le_refl _) o).alloc (by simp) p)
  go_enter Tryz.func143, Tryz.ntmps143
  go_wp2
  go_region_law (refine step_append_has _ rfl (.tmp 13) (.tmp 15) 26 rfl (fun k => S k ∨ W.heap.size ≤ k) 94 i0 _ 7 56 Tryz.underlying26 hi hz0 hz1 hz2 rfl (.slice a lg.length cap) lg.length (lgc lg) (by simp [Act.eval]) (law _ (hB2 _ _)) ⟨W.heap.size + 1, 0, none⟩ 1 1 [.int .i64 mv, .int .i64 th, .int .i64 kd, .int .i64 ad, .int .u64 old, .int .u64 new, .int .u64 saw] (by simp [Act.eval]) rfl (newsAt (W.alloc _) _ #[.int .i64 mv, .int .i64 th, .int .i64 kd, .int .i64 ad, .int .u64 old, .int .u64 new, .int .u64 saw] 94 _ (by simp) rfl) (by simp [Value.oneCell']) (by omega) (by unfold maxLen; omega) hb (by right; simp; omega) ?_; intro g cap' w1 hown hgrow hat; have kb := h.grow1 (hB2 _ _) hgrow h.bl; have kc : w1.cell? ⟨b, 2, none⟩ = some (.slice a lg.length cap) := (by simp [World.cell?, kb]); have kf : w1.frozen? ⟨b, 2, none⟩ = false := (by simp [World.frozen?, kb]))
  all_goals (go_wp2; go_end0; obtain ⟨hm, hf⟩ := h.noted (a := ⟨mv, th, kd, ad, old, new, saw⟩) (hB2 _ _) rfl hown hgrow; exact ⟨rfl, ⟨_, hm⟩, hf⟩)

theorem wrd_set (ws : List Int) (i : Nat) (x : Int) : wrd (ws.set i x) = (wrd ws).set i (.int .u64 x) := by simp [wrd, List.map_set]
theorem has_store {w : World} {S : Nat → Prop} {e : TypeId} {g n cap : Nat} {xs : List Value} (h : Has w S e 1 (.slice (some ⟨g, 0, none⟩) n cap) n xs) (i : Nat) (u : Value) :
    Has (w.setCell ⟨g, i, none⟩ u) S e 1 (.slice (some ⟨g, 0, none⟩) n cap) n (xs.set i u) := by
  rcases h.2 with ⟨hv, _⟩ | ⟨g', cap', cur, hv, hS, hg, h1, h2, h3, h4⟩
  · cases hv
  · cases hv
    refine ⟨by rw [List.length_set]; exact h.1, .inr ⟨g, cap, cur.setIfInBounds i u, rfl, hS, setBlk hg i u, h1, h2, by simpa using h3, ?_⟩⟩
    rw [Array.toList_setIfInBounds, ← h4]
    rw [List.take_set]
theorem Mem.written (h : Mem W S b vw vl va ws mv lg ah) {w0 w1 : World} (hB : Below W.heap.size W w0) {va' : Value} {n i gw cw : Nat} {x y : Int} (hn : n = ah.length + 1) (hvw : vw = .slice (some ⟨gw, 0, none⟩) ws.length cw)
    (hown : Has w1 (fun k => S k ∨ W.heap.size ≤ k) 92 1 va' n (wrd ah ++ [.int .u64 y])) (hgrow : w0.grownBy w1 va.ownBlock) (hat : ∀ k, va'.ownBlock = some k → va.ownBlock = some k ∨ k = w0.heap.size) :
    Mem ((w1.setCell ⟨b, 3, none⟩ va').setCell ⟨gw, i, none⟩ (.int .u64 x)) (fun k => S k ∨ W.heap.size ≤ k) b vw vl va' (ws.set i x) mv lg (ah ++ [y]) ∧ Fr W ((w1.setCell ⟨b, 3, none⟩ va').setCell ⟨gw, i, none⟩ (.int .u64 x)) S := by
  subst hn
  have hb := h.grow1 hB hgrow h.ba
  have hs := hB.size
  have hb' : va'.ownBlock ≠ some b := fun e => by
    rcases hat _ e with e | e
    · exact h.ba e
    · have := h.lt; omega
  have hgw := h.hw.lt gw (by rw [hvw]; rfl)
  have hgb : gw ≠ b := fun e => h.bw (by rw [hvw, e]; rfl)
  have hl1 : Has w1 S 94 7 vl lg.length (lgc lg) := (h.hl.below hB).grown hgrow (fun k hk e => has_ne h.hl h.ha (by decide) k hk e)
  have hw1 : Has w1 S 92 1 vw ws.length (wrd ws) := (h.hw.below hB).grown hgrow (fun k hk e => h.ne k hk e)
  have hlw : vl.ownBlock ≠ some gw := fun e => has_ne h.hl h.hw (by decide) gw e (by rw [hvw]; rfl)
  have haw : va'.ownBlock ≠ some gw := fun e => by
    rcases hat _ e with e | e
    · exact h.ne gw (by rw [hvw]; rfl) e
    · omega
  refine ⟨⟨?_, .inl h.inb, ?_, ((hl1.setCell _ _ h.bl).setCell _ _ hlw).mono (fun _ => .inl), ?_, ?_, by simpa using h.len⟩, ?_⟩
  · rw [Below.heap_setCell _ _ _ b (fun e => hgb e.symm), setBlk hb]; rfl
  · rw [wrd_set, List.length_set]
    have := hw1.setCell ⟨b, 3, none⟩ va' h.bw
    rw [hvw] at this ⊢
    exact (has_store this i _).mono (fun _ => .inl)
  · have : (ah ++ [y]).length = ah.length + 1 := by simp
    rw [wrd_snoc, this]
    exact (hown.setCell _ _ hb').setCell _ _ haw
  · intro k hk e
    rw [hvw] at hk
    simp [Value.ownBlock] at hk
    subst hk
    exact haw e
  · exact (((Fr.of_below hB).grown hgrow (fun k hk => .inl (h.ha.lt k hk).1)).setCell _ _ (.inl h.inb)).setCell _ _ (.inl hgw.1)

set_option maxRecDepth 100000 in
set_option maxHeartbeats 2000000 in
theorem write_any (h : Mem W S b vw vl va ws mv lg ah) (hb : (ah.length + 1 + (ah.length + 1) / 4 + 192) * 8 ≤ 281474976710656) (i : Nat) (hi : i < ws.length) (x : Int) :
    Calls Tryz.prog 146 #[.pointer (some ⟨b, 0, none⟩), .int .i64 i, .int .u64 x] W fun e w' =>
      e = .returned (.tuple #[]) ∧ (∃ va', Mem w' (fun k => S k ∨ W.heap.size ≤ k) b vw vl va' (ws.set i x) mv lg (ah ++ [ws[i]?.getD 0])) ∧ Fr W w' S := by
  obtain ⟨i0, hi0, hz0, hz1, hz2⟩ := info_parts info_u64
  have hlt := h.lt
  obtain ⟨gw, cw, hvw, hgS, hgl, hgc, hgm⟩ := h.hw.there (by omega)
  obtain ⟨a, cap, hv, hle⟩ := h.ha.form
  have cw0 := h.hw.cells (g := gw) (by rw [hvw]; rfl) i _ (wrd_get ws i hi)
  have fw0 := h.hw.frozen (g := gw) (by rw [hvw]; rfl) i
  have hgb : gw ≠ b := fun e => h.bw (by rw [hvw, e]; rfl)
  have hn8 := h.len
  generalize hn : ws.length = n at *
  have hn := Mr.hid hn
  generalize hy : ws[i]?.getD 0 = y at *
  have hy := Mr.hid hy
  have c0 : ∀ o, (W.alloc o).cell? ⟨b, 0, none⟩ = some (.slice (some ⟨gw, 0, none⟩) n cw) := fun o => by rw [World.cell?_alloc_past _ _ _ hlt, ← hvw]; exact h.c0
  have c00 : W.cell? ⟨b, 0, none⟩ = some (.slice (some ⟨gw, 0, none⟩) n cw) := by rw [← hvw]; exact h.c0
  have c33 : W.cell? ⟨b, 3, none⟩ = some (.slice a ah.length cap) := by rw [← hv]; exact h.c3
  have c3 : ∀ o, (W.alloc o).cell? ⟨b, 3, none⟩ = some (.slice a ah.length cap) := fun o => by rw [World.cell?_alloc_past _ _ _ hlt, ← hv]; exact h.c3
  have cw1 : ∀ o, (W.alloc o).cell? ⟨gw, i, none⟩ = some (.int .u64 y) := fun o => by rw [World.cell?_alloc_past _ _ _ hgl]; exact cw0
  have law : ∀ (w0 : World), Below W.heap.size W w0 → Has w0 (fun k => S k ∨ W.heap.size ≤ k) 92 1 (.slice a ah.length cap) ah.length (wrd ah) := fun w0 B => by rw [← hv]; exact (h.ha.below B).mono (fun _ => .inl)
  have hB1 : ∀ o, Below W.heap.size W (W.alloc o).drew := fun o => Below.drew ((Below.refl _ _).alloc (Nat.le_refl _) o)
  have hbl : Value.ownBlock (.slice a ah.length cap) ≠ some b := by rw [← hv]; exact h.ba
  have hwa : Value.ownBlock (.slice a ah.length cap) ≠ some gw := by rw [← hv]; exact h.ne gw (by rw [hvw]; rfl)
  go_enter Tryz.func146, Tryz.ntmps146
  go_wp2
  go_region_law (refine step_append_has _ rfl (.tmp 10) (.tmp 18) 28 rfl (fun k => S k ∨ W.heap.size ≤ k) 92 i0 _ 1 8 Tryz.underlying28 hi0 hz0 hz1 hz2 rfl (.slice a ah.length cap) ah.length (wrd ah) (by simp [Act.eval]) (law _ (hB1 _)) ⟨W.heap.size, 0, none⟩ 1 1 [.int .u64 y] (by simp [Act.eval]) rfl (newsAt W _ #[.int .u64 y] 92 _ rfl rfl) (by simp [Value.oneCell']) (by omega) (by unfold maxLen; omega) hb (by right; simp) ?_; intro g cap' w1 hown hgrow hat; have kb := h.grow1 (hB1 _) hgrow hbl; have kc : w1.cell? ⟨b, 3, none⟩ = some va := (by simp [World.cell?, kb]); have kf : w1.frozen? ⟨b, 3, none⟩ = false := (by simp [World.frozen?, kb]); have kd : w1.cell? ⟨b, 0, none⟩ = some (.slice (some ⟨gw, 0, none⟩) n cw) := (by simp [World.cell?, kb, hvw]); have ke : w1.cell? ⟨gw, i, none⟩ = some (.int .u64 y) := (hgrow.cell (cw1 _) (fun e => hwa e.symm)); have kg : w1.frozen? ⟨gw, i, none⟩ = false := ((hgrow.frozen_far ⟨gw, i, none⟩ (by simp; omega) (fun e => hwa e.symm)).trans (by rw [World.frozen?_drew]; exact (World.frozen?_alloc_past _ _ _ hgl).trans fw0)))
  all_goals (go_wp2; go_end0; obtain ⟨hm, hf⟩ := h.written (i := i) (x := x) (hB1 _) rfl (by rw [hvw, hn.out]) hown (by rw [hv]; exact hgrow) (fun k hk => by rw [hv]; simp [Value.ownBlock] at hk; subst hk; exact hat); exact ⟨rfl, ⟨_, hm⟩, hf⟩)
end
end Go.Proofs.YtkimmfdicohoiaaGreat.Me
/-
  Load, Store, Swap by their contracts.
-/
namespace Go.Proofs.YtkimmfdicohoiaaGreat.Me
open Go.RowKit Mr
section
variable {W : World} {S : Nat → Prop} {b : Nat} {vw vl va : Value} {ws : List Int} {mv : Int} {lg : List Acc} {ah : List Int}
theorem load_no (h : Mem W S b vw vl va ws mv lg ah) (th ad : Int) (h0 : ad < 0 ∨ ws.length ≤ ad) :
    Calls Tryz.prog 125 #[.pointer (some ⟨b, 0, none⟩), .int .i64 th, .int .i64 ad] W fun e w' => e = .returned (.tuple #[.int .u64 0, .int .i64 20]) ∧ w' = W := by
  have C := has_no h ad h0
  clear h h0
  go_enter Tryz.func125, Tryz.ntmps125
  go_wp2_with (go_at_call 142; refine C.mono ?_; rintro e w' ⟨rfl, rfl⟩)
  go_ret2
  exact ⟨rfl, rfl⟩
theorem store_no (h : Mem W S b vw vl va ws mv lg ah) (th ad x : Int) (h0 : ad < 0 ∨ ws.length ≤ ad) :
    Calls Tryz.prog 131 #[.pointer (some ⟨b, 0, none⟩), .int .i64 th, .int .i64 ad, .int .u64 x] W fun e w' => e = .returned (.int .i64 20) ∧ w' = W := by
  have C := has_no h ad h0
  clear h h0
  go_enter Tryz.func131, Tryz.ntmps131
  go_wp2_with (go_at_call 142; refine C.mono ?_; rintro e w' ⟨rfl, rfl⟩)
  go_ret
  exact ⟨rfl, rfl⟩
theorem swap_no (h : Mem W S b vw vl va ws mv lg ah) (th ad old x : Int) (h0 : ad < 0 ∨ ws.length ≤ ad) :
    Calls Tryz.prog 128 #[.pointer (some ⟨b, 0, none⟩), .int .i64 th, .int .i64 ad, .int .u64 old, .int .u64 x] W fun e w' => e = .returned (.tuple #[.int .u64 0, .bool false, .int .i64 20]) ∧ w' = W := by
  have C := has_no h ad h0
  clear h h0
  go_enter Tryz.func128, Tryz.ntmps128
  go_wp2_with (go_at_call 142; refine C.mono ?_; rintro e w' ⟨rfl, rfl⟩)
  go_ret3
  exact ⟨rfl, rfl⟩
theorem load_nil (th ad : Int) (w : World) :
    Calls Tryz.prog 125 #[.pointer none, .int .i64 th, .int .i64 ad] w fun e w' => e = .returned (.tuple #[.int .u64 0, .int .i64 20]) ∧ w' = w := by
  go_enter Tryz.func125, Tryz.ntmps125
  go_wp2_with (go_at_call 142; refine (has_nil _ _).mono ?_; rintro e w' ⟨rfl, rfl⟩)
  go_ret2
  exact ⟨rfl, rfl⟩
theorem store_nil (th ad x : Int) (w : World) :
    Calls Tryz.prog 131 #[.pointer none, .int .i64 th, .int .i64 ad, .int .u64 x] w fun e w' => e = .returned (.int .i64 20) ∧ w' = w := by
  go_enter Tryz.func131, Tryz.ntmps131
  go_wp2_with (go_at_call 142; refine (has_nil _ _).mono ?_; rintro e w' ⟨rfl, rfl⟩)
  go_ret
  exact ⟨rfl, rfl⟩
theorem swap_nil (th ad old x : Int) (w : World) :
    Calls Tryz.prog 128 #[.pointer none, .int .i64 th, .int .i64 ad, .int .u64 old, .int .u64 x] w fun e w' => e = .returned (.tuple #[.int .u64 0, .bool false, .int .i64 20]) ∧ w' = w := by
  go_enter Tryz.func128, Tryz.ntmps128
  go_wp2_with (go_at_call 142; refine (has_nil _ _).mono ?_; rintro e w' ⟨rfl, rfl⟩)
  go_ret3
  exact ⟨rfl, rfl⟩

/-- What the index reads. -/
theorem Mem.at (h : Mem W S b vw vl va ws mv lg ah) (i : Nat) (hi : i < ws.length) : ∃ gw cw, vw = .slice (some ⟨gw, 0, none⟩) ws.length cw ∧ W.cell? ⟨gw, i, none⟩ = some (.int .u64 (ws[i]?.getD 0)) ∧ W.cell? ⟨b, 0, none⟩ = some (.slice (some ⟨gw, 0, none⟩) ws.length cw) := by
  obtain ⟨gw, cw, hvw, hgS, hgl, hgc, hgm⟩ := h.hw.there (by omega)
  refine ⟨gw, cw, hvw, h.hw.cells (g := gw) (by rw [hvw]; rfl) i _ (wrd_get ws i hi), ?_⟩
  rw [← hvw]; exact h.c0

/-- The bounds that an access more asks. -/
def Roomy (lg : List Acc) (ah : List Int) : Prop := (lg.length + 1 + (lg.length + 1) / 4 + 192) * 56 ≤ 281474976710656 ∧ (ah.length + 1 + (ah.length + 1) / 4 + 192) * 8 ≤ 281474976710656

set_option maxRecDepth 100000 in
theorem load_ok (h : Mem W S b vw vl va ws mv lg ah) (hb : Roomy lg ah) (th : Int) (i : Nat) (hi : i < ws.length) :
    Calls Tryz.prog 125 #[.pointer (some ⟨b, 0, none⟩), .int .i64 th, .int .i64 i] W fun e w' => e = .returned (.tuple #[.int .u64 (ws[i]?.getD 0), .int .i64 0]) ∧
      (∃ vl', Mem w' (fun k => S k ∨ W.heap.size ≤ k) b vw vl' va ws mv (lg ++ [⟨mv, th, 1, i, 0, 0, ws[i]?.getD 0⟩]) ah) ∧ Fr W w' S := by
  have C := has_yes h i (by omega) (by omega)
  have D := note_any h hb.1 0 th 1 i 0 0 (ws[i]?.getD 0)
  obtain ⟨gw, cw, hvw, c1, c0⟩ := h.at i hi
  generalize ws[i]?.getD 0 = y at *
  have hi := Mr.hid hi
  have hi' : i < ws.length := hi.out
  generalize ws.length = n at *
  have h := Mr.hid h
  clear hb
  go_enter Tryz.func125, Tryz.ntmps125
  go_wp2_with (first | (go_at_call 142; refine C.mono ?_; rintro e w' ⟨rfl, rfl⟩) | (go_at_call 143; refine D.mono ?_; rintro e w1 ⟨rfl, hm, hf⟩))
  go_ret2
  exact ⟨rfl, hm, hf⟩
set_option maxRecDepth 100000 in
theorem store_ok (h : Mem W S b vw vl va ws mv lg ah) (hb : Roomy lg ah) (th x : Int) (i : Nat) (hi : i < ws.length) :
    Calls Tryz.prog 131 #[.pointer (some ⟨b, 0, none⟩), .int .i64 th, .int .i64 i, .int .u64 x] W fun e w' => e = .returned (.int .i64 0) ∧
      (∃ vl' va', Mem w' (fun k => S k ∨ W.heap.size ≤ k) b vw vl' va' (ws.set i x) mv (lg ++ [⟨mv, th, 2, i, 0, x, 0⟩]) (ah ++ [ws[i]?.getD 0])) ∧ Fr W w' S := by
  have C := has_yes h i (by omega) (by omega)
  have D := note_any h hb.1 0 th 2 i 0 x 0
  go_enter Tryz.func131, Tryz.ntmps131
  go_wp2_with (first | (go_at_call 142; refine C.mono ?_; rintro e w' ⟨rfl, rfl⟩) | (go_at_call 143; refine D.mono ?_; rintro e w1 ⟨rfl, ⟨vl', hm⟩, hf⟩) | (go_at_call 146; refine (write_any hm hb.2 i hi x).mono ?_; rintro e w2 ⟨rfl, ⟨va', hm2⟩, hf2⟩))
  go_ret
  have hs := hf.size
  exact ⟨rfl, ⟨_, _, hm2.mono (fun k hk => by rcases hk with (hk | hk) | hk; exact .inl hk; exact .inr hk; exact .inr (by omega))⟩, hf.trans hf2⟩
set_option maxRecDepth 100000 in
theorem swap_hit (h : Mem W S b vw vl va ws mv lg ah) (hb : Roomy lg ah) (th old x : Int) (i : Nat) (hi : i < ws.length) (ho : ws[i]?.getD 0 = old) :
    Calls Tryz.prog 128 #[.pointer (some ⟨b, 0, none⟩), .int .i64 th, .int .i64 i, .int .u64 old, .int .u64 x] W fun e w' => e = .returned (.tuple #[.int .u64 old, .bool true, .int .i64 0]) ∧
      (∃ vl' va', Mem w' (fun k => S k ∨ W.heap.size ≤ k) b vw vl' va' (ws.set i x) mv (lg ++ [⟨mv, th, 3, i, old, x, old⟩]) (ah ++ [old])) ∧ Fr W w' S := by
  have C := has_yes h i (by omega) (by omega)
  have D := note_any h hb.1 0 th 3 i old x old
  have E := fun {W' : World} {S' : Nat → Prop} {vl' : Value} {lg' : List Acc} (hm : Mem W' S' b vw vl' va ws mv lg' ah) => write_any hm hb.2 i hi x
  obtain ⟨gw, cw, hvw, c1, c0⟩ := h.at i hi
  rw [ho] at c1
  simp only [ho] at E
  clear ho hb h
  generalize hn : ws.length = n at *
  clear hn
  go_enter Tryz.func128, Tryz.ntmps128
  go_wp2_with (first | (go_at_call 142; refine C.mono ?_; rintro e w' ⟨rfl, rfl⟩) | (go_at_call 143; refine D.mono ?_; rintro e w1 ⟨rfl, ⟨vl', hm⟩, hf⟩) | (go_at_call 146; refine (E hm).mono ?_; rintro e w2 ⟨rfl, ⟨va', hm2⟩, hf2⟩))
  go_ret3
  have hs := hf.size
  exact ⟨rfl, ⟨_, _, hm2.mono (fun k hk => by rcases hk with (hk | hk) | hk; exact .inl hk; exact .inr hk; exact .inr (by omega))⟩, hf.trans hf2⟩
set_option maxRecDepth 100000 in
theorem swap_miss (h : Mem W S b vw vl va ws mv lg ah) (hb : Roomy lg ah) (th old x : Int) (i : Nat) (hi : i < ws.length) (ho : ws[i]?.getD 0 ≠ old) :
    Calls Tryz.prog 128 #[.pointer (some ⟨b, 0, none⟩), .int .i64 th, .int .i64 i, .int .u64 old, .int .u64 x] W fun e w' => e = .returned (.tuple #[.int .u64 (ws[i]?.getD 0), .bool false, .int .i64 0]) ∧
      (∃ vl', Mem w' (fun k => S k ∨ W.heap.size ≤ k) b vw vl' va ws mv (lg ++ [⟨mv, th, 3, i, old, x, ws[i]?.getD 0⟩]) ah) ∧ Fr W w' S := by
  have C := has_yes h i (by omega) (by omega)
  have D := note_any h hb.1 0 th 3 i old x (ws[i]?.getD 0)
  obtain ⟨gw, cw, hvw, c1, c0⟩ := h.at i hi
  generalize ws[i]?.getD 0 = y at *
  have hi := Mr.hid hi
  have hi' : i < ws.length := hi.out
  generalize ws.length = n at *
  have h := Mr.hid h
  clear hb
  have hne : (y != old) = true := by simpa using ho
  go_enter Tryz.func128, Tryz.ntmps128
  go_wp2_with (first | (go_at_call 142; refine C.mono ?_; rintro e w' ⟨rfl, rfl⟩) | (go_at_call 143; refine D.mono ?_; rintro e w1 ⟨rfl, hm, hf⟩))
  go_ret3
  exact ⟨rfl, hm, hf⟩
end
end Go.Proofs.YtkimmfdicohoiaaGreat.Me
/-
  THE MEMORY's accesses, all three: for the seats whose desks store, too.
-/
