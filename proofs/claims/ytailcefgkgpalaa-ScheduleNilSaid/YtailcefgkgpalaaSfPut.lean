/-
  SCHEDULE: the heap's Put.
-/
import Derived.Test.YtailcefgkgpalaaSfSink
namespace Go.Proofs.Ytailcefgkgpalaa.Sf
open Go.RowKit Mr Md Sh
attribute [local go_sem] run_store_flt
set_option linter.unusedVariables false
set_option linter.unusedSimpArgs false
set_option maxRecDepth 100000
theorem pr_pair : (Try.prog.info? 53).map (fun i => (i.zero, i.size, i.bytes)) = some (some (.agg #[.float .f64 0, .int .i64 0, .int .u64 0]), 3, 24) := by kernel_rfl
theorem newsAt (w w' : World) (cs : Array Value) (t : TypeId) (B : Nat) (hB : B = w.heap.size) (hw : w'.heap = (w.alloc (.cells cs t)).heap) : ∀ j u, cs.toList[j]? = some u → w'.cell? ((⟨B, 0, none⟩ : Addr).add j) = some u := by
  intro j u hu
  subst hB
  have hadd : (⟨w.heap.size, 0, none⟩ : Addr).add j = ⟨w.heap.size, j, none⟩ := by unfold Addr.add; split <;> simp_all
  rw [hadd]
  have hb : w'.heap[w.heap.size]? = some (.cells cs t) := by rw [hw]; exact heap_alloc_new w _
  simp [World.cell?, hb]
  simpa using hu
section
variable {w w0 w1 : World} {b : Nat} {S : Nat → Prop} {v : Value} {l : List Tr} {p : Int}
theorem Hh.grow1 (h : Hh w b S v l p) (hB : Below w.heap.size w w0) (hg : w0.grownBy w1 v.ownBlock) : w1.heap[b]? = some (.cells #[v, .int .u64 p] 37 (0, 0)) := by
  have h0 := h.below hB
  rw [← h0.box]
  exact hg.block b h0.lt (fun e => h.nb (h.row.lt _ e.symm).1)
theorem Hh.stored (h : Hh w b S v l p) (hB : Below w.heap.size w w0) (hg : w0.grownBy w1 v.ownBlock) {x : Tr} {g cap : Nat} (ho : Has w1 (fun k => S k ∨ w.heap.size ≤ k) 53 3 (.slice (some ⟨g, 0, none⟩) (l.length + 1) cap) (l.length + 1) (trs l ++ x.row)) :
    Hh (w1.setCell ⟨b, 0, none⟩ (.slice (some ⟨g, 0, none⟩) (l.length + 1) cap)) b (fun k => S k ∨ w.heap.size ≤ k) (.slice (some ⟨g, 0, none⟩) (l.length + 1) cap) (l ++ [x]) p ∧ Fr w (w1.setCell ⟨b, 0, none⟩ (.slice (some ⟨g, 0, none⟩) (l.length + 1) cap)) (fun k => k = b ∨ S k) := by
  have kb := h.grow1 hB hg
  have hgS := (ho.lt g rfl).1
  have hnb : ¬ (S b ∨ w.heap.size ≤ b) := fun e => e.elim h.nb (fun e => by have := h.lt; omega)
  have hgb : g ≠ b := fun e => hnb (e ▸ hgS)
  refine ⟨⟨by rw [setBlk kb]; rfl, ?_, hnb⟩, ?_⟩
  · rw [trs_app, List.length_append]
    exact ho.setCell _ _ (by simp [Value.ownBlock]; exact hgb)
  · have f0 : Fr w w0 (fun k => k = b ∨ S k) := Fr.of_below hB
    exact (f0.grown hg (fun k hk => .inl (.inr (h.row.lt k hk).1))).setCell ⟨b, 0, none⟩ _ (.inl (.inl rfl))
theorem Hh.count (h : Hh w b S v l p) (q : Int) : Hh (w.setCell ⟨b, 1, none⟩ (.int .u64 q)) b S v l q ∧ Fr w (w.setCell ⟨b, 1, none⟩ (.int .u64 q)) (fun k => k = b ∨ S k) :=
  ⟨⟨by rw [setBlk h.box]; rfl, h.row.setCell _ _ (fun e => h.nb (h.row.lt _ e).1), h.nb⟩, (Fr.refl _ _).setCell ⟨b, 1, none⟩ _ (.inl (.inl rfl))⟩
end
set_option maxHeartbeats 16000000 in
theorem put_any {D : Int → Nat → Prop} {w : World} {b : Nat} {S : Nat → Prop} {v : Value} {l : List Tr} {p : Int} (h : Hh w b S v l p) (hlm : l.length ≤ 1000000) (hh : Hep l) (hp0 : 0 ≤ p) (hp1 : p ≤ 18446744073709551614) (k : Int) (c : Nat) (hk : D k c) (x : Int) (hC : ∀ k c k' c', D k c → D k' c' → ∀ w, Calls Try.prog 27 #[.float .f64 c, .float .f64 c'] w fun e w' => e = .returned (.int .i64 (cmpI k k')) ∧ w' = w) (hD : ∀ x ∈ l, D x.k x.c) :
    Calls Try.prog 10 #[.pointer (some ⟨b, 0, none⟩), .float .f64 c, .int .i64 x] w fun e w' => e = .returned (.tuple #[]) ∧ ∃ v' l', Hh w' b (fun q => S q ∨ w.heap.size ≤ q) v' l' (p + 1) ∧ l'.Perm (l ++ [⟨k, c, x, p⟩]) ∧ Hep l' ∧ Fr w w' (fun q => q = b ∨ S q) := by
  obtain ⟨i0, hi0, hz0, hz1, hz2⟩ := parts_of pr_pair
  obtain ⟨a, cap, rfl, hcap⟩ := h.row.form
  have k0 := h.c0
  have k1 := h.c1
  have f0 := h.fz 0
  have kl := h.lt
  have hB1 : ∀ o, Below w.heap.size w (w.alloc o).drew := fun o => Below.drew ((Below.refl _ _).alloc (Nat.le_refl _) o)
  have law := fun w1 (hB : Below w.heap.size w w1) => (h.row.below hB).mono (T := fun q => S q ∨ w.heap.size ≤ q) (fun q hq => Or.inl hq)
  have hwp : IntKind.u64.wrap (p + 1) = p + 1 := by simp [IntKind.wrap, IntKind.signed, IntKind.bits]; omega
  replace law := Mr.hid law
  replace hB1 := Mr.hid hB1
  replace hh := Mr.hid hh
  replace hC := Mr.hid hC
  replace hD := Mr.hid hD
  have hx := Mr.hid h
  obtain ⟨n, hn⟩ : ∃ n, n = l.length := ⟨_, rfl⟩
  go_enter Try.func10, Try.ntmps10
  go_upto_region 1 with (fail)
  go_region_law (refine step_append_has _ rfl (.tmp 12) (.tmp 20) 35 rfl (fun q => S q ∨ w.heap.size ≤ q) 53 i0 _ 3 24 Try.underlying35 hi0 hz0 hz1 hz2 rfl (.slice a l.length cap) l.length (trs l) (by simp [Act.eval]) (law.out _ (hB1.out _)) ⟨w.heap.size, 0, none⟩ 1 1 [.float .f64 c, .int .i64 x, .int .u64 p] (by simp [Act.eval]) rfl (newsAt w _ #[.float .f64 c, .int .i64 x, .int .u64 p] 53 _ rfl rfl) (by simp [Value.oneCell']) (by omega) (by unfold maxLen; omega) (by omega) (by right; simp) ?_; intro g cap' w1 hown hgrow hat; have kb := hx.out.grow1 (hB1.out _) hgrow; have kc : w1.cell? ⟨b, 0, none⟩ = some (.slice a l.length cap) := (by simp [World.cell?, kb]); have kf : w1.frozen? ⟨b, 0, none⟩ = false := (by simp [World.frozen?, kb]); have kq := (Array.getElem?_eq_some_iff.1 kb).1)
  all_goals
    obtain ⟨hs1, hs2⟩ := hx.out.stored (x := ⟨k, c, x, p⟩) (hB1.out _) hgrow hown
    clear hown hgrow hat kb kc kf kq k0 k1 f0
    have hl1 : (l ++ [(⟨k, c, x, p⟩ : Tr)]).length = l.length + 1 := by simp
    generalize w1.setCell ⟨b, 0, none⟩ (.slice (some ⟨g, 0, none⟩) (l.length + 1) cap') = w2 at *
    have k0 := hs1.c0
    have k1 := hs1.c1
    have f1 := hs1.fz 1
    have kl2 := hs1.lt
    obtain ⟨hc1, hc2⟩ := hs1.count (p + 1)
    have R := rise_any hc1 l.length (by omega) (by omega) (Up.start hh.out _) hC.out (fun y hy => by rcases List.mem_append.1 hy with h | h; exact hD.out y h; simp at h; subst h; exact hk)
    have k2 := hc1.c0
    have kl3 := hc1.lt
    replace R := Mr.hid R
    replace hs1 := Mr.hid hs1
    replace hs2 := Mr.hid (hs2.trans (hc2.mono (fun q hq => by rcases hq with h | h | h <;> simp_all)))
    replace hc1 := Mr.hid hc1
    replace hl1 := Mr.hid hl1
    clear hc2
    have hw5 : IntKind.i64.wrap ((l.length : Int) + 1 - 1) = (l.length : Int) := by rw [show (l.length : Int) + 1 - 1 = (l.length : Int) from by omega]; exact i64x _ (by omega) (by omega)
    have hw6 : IntKind.i64.wrap (l.length : Int) = (l.length : Int) := i64x _ (by omega) (by omega)
    go_wp2_with (go_at_call 16; refine R.out.mono ?_; clear R; rintro e w3 ⟨rfl, l', hr1, hr2, hr3, hr4⟩; have hend : Hid (∃ v' l', Hh w3 b (fun q => S q ∨ w.heap.size ≤ q) v' l' (p + 1) ∧ l'.Perm (l ++ [⟨k, c, x, p⟩]) ∧ Hep l' ∧ Fr w w3 (fun q => q = b ∨ S q)) := ⟨_, l', hr1, hr2, hr3, hs2.out.trans (hr4.mono (fun q hq => by rcases hq with h | h <;> simp_all))⟩; clear hr1 hr2 hr3 hr4)
    go_end0
    exact ⟨rfl, hend.out⟩
end Go.Proofs.Ytailcefgkgpalaa.Sf
