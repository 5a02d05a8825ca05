import Derived.Test.YtnapnhmmopajfaaGreatJ01
import Derived.WalkSpells
import Derived.Deep.RegionLaw
/-
  slices.Clone at uint64; Words; New.
-/

namespace Go.Proofs.YtnapnhmmopajfaaGreat.Me
open Go.RowKit Mr
theorem info_u64 : (Tryz.prog.info? 63).map (fun i => (i.zero, i.size, i.bytes)) = some (some (.int .u64 0), 1, 8) := by kernel_rfl
theorem info_acc : (Tryz.prog.info? 65).map (fun i => (i.zero, i.size, i.bytes)) = some (some (.agg #[.int .i64 0, .int .i64 0, .int .i64 0, .int .i64 0, .int .u64 0, .int .u64 0, .int .u64 0]), 7, 56) := by kernel_rfl
theorem info_int : (Tryz.prog.info? 3).map (fun i => (i.zero, i.size, i.bytes)) = some (some (.int .i64 0), 1, 8) := by kernel_rfl

/-- The slice value .slice a n cap reads as the words ws. -/
def Src (W : World) (a : Option Addr) (n cap : Nat) (ws : List Int) : Prop :=
  n = ws.length ∧ ((a = none ∧ n = 0 ∧ cap = 0) ∨ ∃ ad : Addr, a = some ad ∧ ∀ j u, (wrd ws)[j]? = some u → W.cell? (ad.add j) = some u)
theorem Src.of_has {W : World} {S : Nat → Prop} {v : Value} {ws : List Int} (h : Has W S 63 1 v ws.length (wrd ws)) : ∃ a cap, v = .slice a ws.length cap ∧ Src W a ws.length cap ws := by
  rcases h.2 with ⟨rfl, h0⟩ | ⟨g, cap, cur, rfl, _, _, _⟩
  · rw [h0]
    exact ⟨none, 0, rfl, h0.symm, .inl ⟨rfl, rfl, rfl⟩⟩
  · refine ⟨_, cap, rfl, rfl, .inr ⟨_, rfl, fun j u hu => ?_⟩⟩
    have hadd : (⟨g, 0, none⟩ : Addr).add j = ⟨g, j, none⟩ := by unfold Addr.add; split <;> simp_all
    rw [hadd]; exact h.cells (g := g) rfl j u hu
theorem Src.below {W W' : World} {a : Option Addr} {n cap : Nat} {ws : List Int} (h : Src W a n cap ws) (hb : Below W.heap.size W W') : Src W' a n cap ws := by
  refine ⟨h.1, ?_⟩
  rcases h.2 with h | ⟨ad, rfl, hc⟩
  · exact .inl h
  · refine .inr ⟨ad, rfl, fun j u hu => ?_⟩
    rw [hb.cell (p := ad.add j) (World.block_lt_of_cell? W _ (hc j u hu))]
    exact hc j u hu

set_option maxRecDepth 100000 in
set_option maxHeartbeats 1000000 in
theorem clone_any (a : Option Addr) (n cap : Nat) (ws : List Int) (w : World) (h : Src w a n cap ws) (hn : n ≤ 8192) :
    Calls Tryz.prog 45 #[.slice a n cap] w fun e w' => ∃ v, e = .returned v ∧ Has w' (fun k => w.heap.size ≤ k) 63 1 v ws.length (wrd ws) ∧ Below w.heap.size w w' := by
  obtain ⟨i0, hi, hz0, hz1, hz2⟩ := info_parts info_u64
  have en := fun (w : World) => Lib.run_eql_slice_nil (P := Tryz.prog) w 31 63 a n cap 0 0 Tryz.underlying31
  obtain ⟨hl, h⟩ := h
  rcases h with ⟨rfl, rfl, rfl⟩ | ⟨ad, rfl, hc⟩
  · replace hl := Mr.hid hl
    go_enter Tryz.func45, Tryz.ntmps45
    go_wp2
    go_ret
    have hl := hl.out
    have hw : ws = [] := List.eq_nil_of_length_eq_zero hl.symm
    subst hw
    exact ⟨_, rfl, Has.nil _ _ _ _, Below.refl _ _⟩
  · replace hl := Mr.hid hl
    replace hc := Mr.hid hc
    go_enter Tryz.func45, Tryz.ntmps45
    go_wp2_with (at_builtin; refine wpList_append_own _ rfl (.tmp 5) (.tmp 6) 31 rfl w.heap.size 63 i0 (.int .u64 0) 1 8 Tryz.underlying31 hi hz0 hz1 hz2 rfl (by decide) (.slice (some ⟨w.heap.size, 0, none⟩) 0 0) 0 [] rfl (World.ownsRow_made w #[] 0 (Nat.le_refl _) (by decide) (by simp)) ad n cap (wrd ws) rfl (by rw [wrd_length, hl.out]; simp) (fun j u hu => (((Below.refl w.heap.size w).alloc (Nat.le_refl _) _).cell (p := ad.add j) (World.block_lt_of_cell? w _ (hc.out j u hu))).trans (hc.out j u hu)) (wrd_one ws) (by unfold maxLen; omega) (by omega) (by simp) ?_; intro v' w1 hown hgrow hnil)
    go_ret
    have hl := hl.out
    subst hl
    rw [Nat.zero_add, List.nil_append] at hown
    exact ⟨_, rfl, Has.owns hown (fun _ h => h), ((Below.refl _ _).alloc (Nat.le_refl _) _).grown hgrow (by simp) (fun k hk => by simp [Value.ownBlock] at hk; omega)⟩
section
variable {W : World} {S : Nat → Prop} {b : Nat} {vw vl va : Value} {ws : List Int} {mv : Int} {lg : List Acc} {ah : List Int}
theorem words_any (h : Mem W S b vw vl va ws mv lg ah) :
    Calls Tryz.prog 44 #[.pointer (some ⟨b, 0, none⟩)] W fun e w' => ∃ v, e = .returned v ∧ Has w' (fun k => W.heap.size ≤ k) 63 1 v ws.length (wrd ws) ∧ Below W.heap.size W w' := by
  obtain ⟨a, cap, rfl, hs⟩ := Src.of_has h.hw
  have h0 := h.c0
  have C := clone_any _ _ _ _ _ hs h.len
  clear h hs
  generalize ws.length = n at *
  go_enter Tryz.func44, Tryz.ntmps44
  go_wp2_with (go_at_call 45; refine C.mono ?_; rintro e w' ⟨v, rfl, hv, hB⟩; obtain ⟨a', cap', rfl, _⟩ := hv.form)
  go_ret
  exact ⟨_, rfl, hv, hB⟩
theorem words_nil (w : World) :
    Calls Tryz.prog 44 #[.pointer none] w fun e w' => e = .returned (.slice none 0 0) ∧ w' = w := by
  go_enter Tryz.func44, Tryz.ntmps44
  go_wp2
  go_ret
  exact ⟨rfl, rfl⟩
end
theorem new_long (a : Option Addr) (n cap : Nat) (w : World) (hn : 8192 < n) :
    Calls Tryz.prog 27 #[.slice a n cap] w fun e w' => e = .returned (.tuple #[.pointer none, .int .i64 3]) ∧ w' = w := by
  have h1 : 8192 < (n : Int) := by omega
  go_enter Tryz.func27, Tryz.ntmps27
  go_wp2
  go_ret2
  exact ⟨rfl, rfl⟩
theorem new_any (a : Option Addr) (n cap : Nat) (ws : List Int) (w : World) (h : Src w a n cap ws) (hn : n ≤ 8192) :
    Calls Tryz.prog 27 #[.slice a n cap] w fun e w' => ∃ b vw, e = .returned (.tuple #[.pointer (some ⟨b, 0, none⟩), .int .i64 0]) ∧ Mem w' (fun k => w.heap.size ≤ k) b vw (.slice none 0 0) (.slice none 0 0) ws 0 [] [] ∧ Below w.heap.size w w' := by
  have C := clone_any _ _ _ _ _ h hn
  have h1 : (n : Int) ≤ 8192 := by omega
  replace hl := Mr.hid h.1
  clear h
  go_enter Tryz.func27, Tryz.ntmps27
  go_wp2_with (go_at_call 45; refine C.mono ?_; rintro e w1 ⟨v, rfl, hv, hB⟩; obtain ⟨a', cap', rfl, _⟩ := hv.form)
  go_ret2
  have hl := hl.out
  have hs := hB.size
  refine ⟨_, _, rfl, ⟨heap_alloc_new _ _, hs, hv.alloc _, Has.nil _ _ _ _, Has.nil _ _ _ _, fun _ _ => by simp [Value.ownBlock], by omega⟩, hB.alloc hs _⟩
end Go.Proofs.YtnapnhmmopajfaaGreat.Me
/-
  note and write by their contracts.
-/
namespace Go.Proofs.YtnapnhmmopajfaaGreat.Me
open Go.RowKit Mr
theorem setBlk {W : World} {b : Nat} {cs : Array Value} {t : TypeId} {fr : Nat × Nat} (h : W.heap[b]? = some (.cells cs t fr)) (o : Nat) (v : Value) : (W.setCell ⟨b, o, none⟩ v).heap[b]? = some (.cells (cs.setIfInBounds o v) t fr) := by
  obtain ⟨hlt, hk⟩ := Array.getElem?_eq_some_iff.1 h
  show (W.heap.modify b _)[b]? = _
  rw [Array.getElem?_eq_getElem (by rw [Array.size_modify]; exact hlt), Array.getElem_modify_self, hk]
  rfl
theorem newsAt (w w' : World) (cs : Array Value) (t : TypeId) (B : Nat) (hB : B = w.heap.size) (hw : w'.heap = (w.alloc (.cells cs t)).heap) : ∀ j u, cs.toList[j]? = some u → w'.cell? ((⟨B, 0, none⟩ : Addr).add j) = some u := by
  subst hB
  exact World.news_of_block (by rw [hw]; exact heap_alloc_new w _)
section
variable {W : World} {S : Nat → Prop} {b : Nat} {vw vl va : Value} {ws : List Int} {mv : Int} {lg : List Acc} {ah : List Int}
theorem Mem.grow1 (h : Mem W S b vw vl va ws mv lg ah) {w0 w1 : World} {row : Option Nat} (hB : Below W.heap.size W w0) (hgrow : w0.grownBy w1 row) (hne : row ≠ some b) : w1.heap[b]? = some (.cells #[vw, .int .i64 mv, vl, va] 124 (0, 0)) :=
  ((hgrow.block b (Nat.lt_of_lt_of_le h.lt hB.size) (fun e => hne e.symm)).trans (hB.block b h.lt)).trans h.blk
theorem Mem.noted (h : Mem W S b vw vl va ws mv lg ah) {w0 w1 : World} (hB : Below W.heap.size W w0) {v' : Value} {a : Acc} {n : Nat} (hn : n = lg.length + 1)
    (hown : Has w1 (fun k => S k ∨ W.heap.size ≤ k) 65 7 v' n (lgc lg ++ a.cells)) (hgrow : w0.grownBy w1 vl.ownBlock) :
    Mem (w1.setCell ⟨b, 2, none⟩ v') (fun k => S k ∨ W.heap.size ≤ k) b vw v' va ws mv (lg ++ [a]) ah ∧ Fr W (w1.setCell ⟨b, 2, none⟩ v') S := by
  subst hn
  have hb := h.grow1 hB hgrow h.bl
  have hb' : v'.ownBlock ≠ some b := fun e => by
    rcases hown.2 with ⟨rfl, _⟩ | ⟨g, _, cur, rfl, _, hg, _⟩
    · simp [Value.ownBlock] at e
    · simp [Value.ownBlock] at e; subst e; rw [hb] at hg; simp at hg
  have hw1 : Has w1 S 63 1 vw ws.length (wrd ws) := (h.hw.below hB).grown hgrow (fun k hk e => has_ne h.hw h.hl (by decide) k hk e)
  have ha1 : Has w1 S 63 1 va ah.length (wrd ah) := (h.ha.below hB).grown hgrow (fun k hk e => has_ne h.ha h.hl (by decide) k hk e)
  refine ⟨⟨by rw [setBlk hb]; rfl, .inl h.inb, (hw1.setCell _ _ h.bw).mono (fun _ => .inl), ?_, (ha1.setCell _ _ h.ba).mono (fun _ => .inl), h.ne, h.len⟩, ?_⟩
  · rw [lgc_snoc]
    have : (lg ++ [a]).length = lg.length + 1 := by simp
    rw [this]
    exact hown.setCell _ _ hb'
  · exact ((Fr.of_below hB).grown hgrow (fun k hk => .inl (h.hl.lt k hk).1)).setCell _ _ (.inl h.inb)

set_option maxRecDepth 100000 in
set_option maxHeartbeats 2000000 in
theorem note_any (h : Mem W S b vw vl va ws mv lg ah) (hb : (lg.length + 1 + (lg.length + 1) / 4 + 192) * 56 ≤ 281474976710656) (x0 th kd ad old new saw : Int) :
    Calls Tryz.prog 93 #[.pointer (some ⟨b, 0, none⟩), .agg #[.int .i64 x0, .int .i64 th, .int .i64 kd, .int .i64 ad, .int .u64 old, .int .u64 new, .int .u64 saw]] W fun e w' =>
      e = .returned (.tuple #[]) ∧ (∃ vl', Mem w' (fun k => S k ∨ W.heap.size ≤ k) b vw vl' va ws mv (lg ++ [⟨mv, th, kd, ad, old, new, saw⟩]) ah) ∧ Fr W w' S := by
  obtain ⟨i0, hi, hz0, hz1, hz2⟩ := info_parts info_acc
  have hlt := h.lt
  obtain ⟨a, cap, hv, hle⟩ := h.hl.form
  subst hv
  have c1 : (W.alloc (.cells #[.int .i64 x0, .int .i64 th, .int .i64 kd, .int .i64 ad, .int .u64 old, .int .u64 new, .int .u64 saw] 65)).cell? ⟨b, 1, none⟩ = some (.int .i64 mv) := by rw [World.cell?_alloc_past _ _ _ hlt]; exact h.c1
  have c2 : ∀ o, (W.alloc o).cell? ⟨b, 2, none⟩ = some (.slice a lg.length cap) := fun o => by rw [World.cell?_alloc_past _ _ _ hlt]; exact h.c2
  have hne : W.heap.size ≠ b := by omega
  have law : ∀ (w0 : World), Below W.heap.size W w0 → Has w0 (fun k => S k ∨ W.heap.size ≤ k) 65 7 (.slice a lg.length cap) lg.length (lgc lg) := fun w0 B => (h.hl.below B).mono (fun _ => .inl)
  have hB2 : ∀ o p, Below W.heap.size W ((W.alloc o).alloc p).drew := fun o p => Below.drew (((Below.refl _ _).alloc (Nat.le_refl _) o).alloc (by simp) p)
  go_enter Tryz.func93, Tryz.ntmps93
  go_wp2
  go_region_law (refine step_append_has _ rfl (.tmp 13) (.tmp 15) 29 rfl (fun k => S k ∨ W.heap.size ≤ k) 65 i0 _ 7 56 Tryz.underlying29 hi hz0 hz1 hz2 rfl (.slice a lg.length cap) lg.length (lgc lg) (by simp [Act.eval]) (law _ (hB2 _ _)) ⟨W.heap.size + 1, 0, none⟩ 1 1 [.int .i64 mv, .int .i64 th, .int .i64 kd, .int .i64 ad, .int .u64 old, .int .u64 new, .int .u64 saw] (by simp [Act.eval]) rfl (newsAt (W.alloc _) _ #[.int .i64 mv, .int .i64 th, .int .i64 kd, .int .i64 ad, .int .u64 old, .int .u64 new, .int .u64 saw] 65 _ (by simp) rfl) (by simp [Value.oneCell']) (by omega) (by unfold maxLen; omega) hb (by right; simp; omega) ?_; intro g cap' w1 hown hgrow hat; have kb := h.grow1 (hB2 _ _) hgrow h.bl; have kc : w1.cell? ⟨b, 2, none⟩ = some (.slice a lg.length cap) := (by simp [World.cell?, kb]); have kf : w1.frozen? ⟨b, 2, none⟩ = false := (by simp [World.frozen?, kb]))
  all_goals (go_wp2; go_end0; obtain ⟨hm, hf⟩ := h.noted (a := ⟨mv, th, kd, ad, old, new, saw⟩) (hB2 _ _) rfl hown hgrow; exact ⟨rfl, ⟨_, hm⟩, hf⟩)

theorem wrd_set (ws : List Int) (i : Nat) (x : Int) : wrd (ws.set i x) = (wrd ws).set i (.int .u64 x) := by simp [wrd, List.map_set]
theorem has_store {w : World} {S : Nat → Prop} {e : TypeId} {g n cap : Nat} {xs : List Value} (h : Has w S e 1 (.slice (some ⟨g, 0, none⟩) n cap) n xs) (i : Nat) (u : Value) :
    Has (w.setCell ⟨g, i, none⟩ u) S e 1 (.slice (some ⟨g, 0, none⟩) n cap) n (xs.set i u) := by
  rcases h.2 with ⟨hv, _⟩ | ⟨g', cap', cur, hv, hS, hg, h1, h2, h3, h4⟩
  · cases hv
  · cases hv
    refine ⟨by rw [List.length_set]; exact h.1, .inr ⟨g, cap, cur.setIfInBounds i u, rfl, hS, setBlk hg i u, h1, h2, by simpa using h3, ?_⟩⟩
    rw [Array.toList_setIfInBounds, ← h4]
    rw [List.take_set]
theorem Mem.written (h : Mem W S b vw vl va ws mv lg ah) {w0 w1 : World} (hB : Below W.heap.size W w0) {va' : Value} {n i gw cw : Nat} {x y : Int} (hn : n = ah.length + 1) (hvw : vw = .slice (some ⟨gw, 0, none⟩) ws.length cw)
    (hown : Has w1 (fun k => S k ∨ W.heap.size ≤ k) 63 1 va' n (wrd ah ++ [.int .u64 y])) (hgrow : w0.grownBy w1 va.ownBlock) (hat : ∀ k, va'.ownBlock = some k → va.ownBlock = some k ∨ k = w0.heap.size) :
    Mem ((w1.setCell ⟨b, 3, none⟩ va').setCell ⟨gw, i, none⟩ (.int .u64 x)) (fun k => S k ∨ W.heap.size ≤ k) b vw vl va' (ws.set i x) mv lg (ah ++ [y]) ∧ Fr W ((w1.setCell ⟨b, 3, none⟩ va').setCell ⟨gw, i, none⟩ (.int .u64 x)) S := by
  subst hn
  have hb := h.grow1 hB hgrow h.ba
  have hs := hB.size
  have hb' : va'.ownBlock ≠ some b := fun e => by
    rcases hat _ e with e | e
    · exact h.ba e
    · have := h.lt; omega
  have hgw := h.hw.lt gw (by rw [hvw]; rfl)
  have hgb : gw ≠ b := fun e => h.bw (by rw [hvw, e]; rfl)
  have hl1 : Has w1 S 65 7 vl lg.length (lgc lg) := (h.hl.below hB).grown hgrow (fun k hk e => has_ne h.hl h.ha (by decide) k hk e)
  have hw1 : Has w1 S 63 1 vw ws.length (wrd ws) := (h.hw.below hB).grown hgrow (fun k hk e => h.ne k hk e)
  have hlw : vl.ownBlock ≠ some gw := fun e => has_ne h.hl h.hw (by decide) gw e (by rw [hvw]; rfl)
  have haw : va'.ownBlock ≠ some gw := fun e => by
    rcases hat _ e with e | e
    · exact h.ne gw (by rw [hvw]; rfl) e
    · omega
  refine ⟨⟨?_, .inl h.inb, ?_, ((hl1.setCell _ _ h.bl).setCell _ _ hlw).mono (fun _ => .inl), ?_, ?_, by simpa using h.len⟩, ?_⟩
  · rw [Below.heap_setCell _ _ _ b (fun e => hgb e.symm), setBlk hb]; rfl
  · rw [wrd_set, List.length_set]
    have := hw1.setCell ⟨b, 3, none⟩ va' h.bw
    rw [hvw] at this ⊢
    exact (has_store this i _).mono (fun _ => .inl)
  · have : (ah ++ [y]).length = ah.length + 1 := by simp
    rw [wrd_snoc, this]
    exact (hown.setCell _ _ hb').setCell _ _ haw
  · intro k hk e
    rw [hvw] at hk
    simp [Value.ownBlock] at hk
    subst hk
    exact haw e
  · exact (((Fr.of_below hB).grown hgrow (fun k hk => .inl (h.ha.lt k hk).1)).setCell _ _ (.inl h.inb)).setCell _ _ (.inl hgw.1)

set_option maxRecDepth 100000 in
set_option maxHeartbeats 2000000 in
theorem write_any (h : Mem W S b vw vl va ws mv lg ah) (hb : (ah.length + 1 + (ah.length + 1) / 4 + 192) * 8 ≤ 281474976710656) (i : Nat) (hi : i < ws.length) (x : Int) :
    Calls Tryz.prog 101 #[.pointer (some ⟨b, 0, none⟩), .int .i64 i, .int .u64 x] W fun e w' =>
      e = .returned (.tuple #[]) ∧ (∃ va', Mem w' (fun k => S k ∨ W.heap.size ≤ k) b vw vl va' (ws.set i x) mv lg (ah ++ [ws[i]?.getD 0])) ∧ Fr W w' S := by
  obtain ⟨i0, hi0, hz0, hz1, hz2⟩ := info_parts info_u64
  have hlt := h.lt
  obtain ⟨gw, cw, hvw, hgS, hgl, hgc, hgm⟩ := h.hw.there (by omega)
  obtain ⟨a, cap, hv, hle⟩ := h.ha.form
  have cw0 := h.hw.cells (g := gw) (by rw [hvw]; rfl) i _ (wrd_get ws i hi)
  have fw0 := h.hw.frozen (g := gw) (by rw [hvw]; rfl) i
  have hgb : gw ≠ b := fun e => h.bw (by rw [hvw, e]; rfl)
  have hn8 := h.len
  generalize hn : ws.length = n at *
  have hn := Mr.hid hn
  generalize hy : ws[i]?.getD 0 = y at *
  have hy := Mr.hid hy
  have c0 : ∀ o, (W.alloc o).cell? ⟨b, 0, none⟩ = some (.slice (some ⟨gw, 0, none⟩) n cw) := fun o => by rw [World.cell?_alloc_past _ _ _ hlt, ← hvw]; exact h.c0
  have c00 : W.cell? ⟨b, 0, none⟩ = some (.slice (some ⟨gw, 0, none⟩) n cw) := by rw [← hvw]; exact h.c0
  have c33 : W.cell? ⟨b, 3, none⟩ = some (.slice a ah.length cap) := by rw [← hv]; exact h.c3
  have c3 : ∀ o, (W.alloc o).cell? ⟨b, 3, none⟩ = some (.slice a ah.length cap) := fun o => by rw [World.cell?_alloc_past _ _ _ hlt, ← hv]; exact h.c3
  have cw1 : ∀ o, (W.alloc o).cell? ⟨gw, i, none⟩ = some (.int .u64 y) := fun o => by rw [World.cell?_alloc_past _ _ _ hgl]; exact cw0
  have law : ∀ (w0 : World), Below W.heap.size W w0 → Has w0 (fun k => S k ∨ W.heap.size ≤ k) 63 1 (.slice a ah.length cap) ah.length (wrd ah) := fun w0 B => by rw [← hv]; exact (h.ha.below B).mono (fun _ => .inl)
  have hB1 : ∀ o, Below W.heap.size W (W.alloc o).drew := fun o => Below.drew ((Below.refl _ _).alloc (Nat.le_refl _) o)
  have hbl : Value.ownBlock (.slice a ah.length cap) ≠ some b := by rw [← hv]; exact h.ba
  have hwa : Value.ownBlock (.slice a ah.length cap) ≠ some gw := by rw [← hv]; exact h.ne gw (by rw [hvw]; rfl)
  go_enter Tryz.func101, Tryz.ntmps101
  go_wp2
  go_region_law (refine step_append_has _ rfl (.tmp 10) (.tmp 18) 31 rfl (fun k => S k ∨ W.heap.size ≤ k) 63 i0 _ 1 8 Tryz.underlying31 hi0 hz0 hz1 hz2 rfl (.slice a ah.length cap) ah.length (wrd ah) (by simp [Act.eval]) (law _ (hB1 _)) ⟨W.heap.size, 0, none⟩ 1 1 [.int .u64 y] (by simp [Act.eval]) rfl (newsAt W _ #[.int .u64 y] 63 _ rfl rfl) (by simp [Value.oneCell']) (by omega) (by unfold maxLen; omega) hb (by right; simp) ?_; intro g cap' w1 hown hgrow hat; have kb := h.grow1 (hB1 _) hgrow hbl; have kc : w1.cell? ⟨b, 3, none⟩ = some va := (by simp [World.cell?, kb]); have kf : w1.frozen? ⟨b, 3, none⟩ = false := (by simp [World.frozen?, kb]); have kd : w1.cell? ⟨b, 0, none⟩ = some (.slice (some ⟨gw, 0, none⟩) n cw) := (by simp [World.cell?, kb, hvw]); have ke : w1.cell? ⟨gw, i, none⟩ = some (.int .u64 y) := (hgrow.cell (cw1 _) (fun e => hwa e.symm)); have kg : w1.frozen? ⟨gw, i, none⟩ = false := ((hgrow.frozen_far ⟨gw, i, none⟩ (by simp; omega) (fun e => hwa e.symm)).trans (by rw [World.frozen?_drew]; exact (World.frozen?_alloc_past _ _ _ hgl).trans fw0)))
  all_goals (go_wp2; go_end0; obtain ⟨hm, hf⟩ := h.written (i := i) (x := x) (hB1 _) rfl (by rw [hvw, hn.out]) hown (by rw [hv]; exact hgrow) (fun k hk => by rw [hv]; simp [Value.ownBlock] at hk; subst hk; exact hat); exact ⟨rfl, ⟨_, hm⟩, hf⟩)
end
end Go.Proofs.YtnapnhmmopajfaaGreat.Me
