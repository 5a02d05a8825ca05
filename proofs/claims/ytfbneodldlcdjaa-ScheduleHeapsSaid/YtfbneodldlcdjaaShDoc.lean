/-
  SCHEDULE: the document's heap: a list in the order of putting in.
-/
import Derived.Test.YtfbneodldlcdjaaShNext
import Derived.Test.YtfbneodldlcdjaaRfFresh
namespace Go.Proofs.Ytfbneodldlcdjaa.Sh
open Go.RowKit Mr Md Me
set_option linter.unusedVariables false
set_option linter.unusedSimpArgs false
set_option maxRecDepth 100000
def Tr.it (x : Tr) : List Value := [.int .i64 x.k, .int .i64 x.v]
def its (l : List Tr) : List Value := l.flatMap Tr.it
theorem its_len (l : List Tr) : (its l).length = l.length * 2 := flat_len Tr.it 2 (fun _ => rfl) l
theorem its_get {l : List Tr} {i : Nat} (h : i < l.length) : (its l)[i * 2]? = some (.int .i64 (tr l i).k) ∧ (its l)[i * 2 + 1]? = some (.int .i64 (tr l i).v) := by
  have h1 := flat_get Tr.it 2 (fun _ => rfl) l i (tr l i) (tr_some h)
  exact ⟨h1 0 (by omega), h1 1 (by omega)⟩
theorem its_app (l m : List Tr) : its (l ++ m) = its l ++ its m := by simp [its]
theorem its_one (x : Tr) : its [x] = x.it := by simp [its]
theorem its_take (l : List Tr) (n : Nat) : its (l.take n) = (its l).take (n * 2) := by
  induction l generalizing n with
  | nil => simp [its]
  | cons d l ih =>
    cases n with
    | zero => simp [its]
    | succ n =>
      have e : ∀ y : List Tr, its (d :: y) = d.it ++ its y := fun y => by simp [its]
      rw [List.take_succ_cons, e, e, ih, show (n + 1) * 2 = d.it.length + n * 2 from by simp [Tr.it]; omega, List.take_length_add_append]
theorem its_drop (l : List Tr) (n : Nat) : its (l.drop n) = (its l).drop (n * 2) := by
  induction l generalizing n with
  | nil => simp [its]
  | cons d l ih =>
    cases n with
    | zero => simp [its]
    | succ n =>
      have e : ∀ y : List Tr, its (d :: y) = d.it ++ its y := fun y => by simp [its]
      rw [List.drop_succ_cons, e, ih, show (n + 1) * 2 = d.it.length + n * 2 from by simp [Tr.it]; omega, List.drop_length_add_append]
theorem its_one' (l : List Tr) : ∀ u ∈ its l, u.oneCell' = true := by
  intro u hu
  unfold its at hu
  obtain ⟨x, _, hx⟩ := List.mem_flatMap.1 hu
  simp [Tr.it] at hx
  rcases hx with rfl | rfl <;> rfl
theorem pr_item : (Try.prog.info? 61).map (fun i => (i.zero, i.size, i.bytes)) = some (some (.agg #[.int .i64 0, .int .i64 0]), 2, 16) := by kernel_rfl
structure Hd (w : World) (b : Nat) (S : Nat → Prop) (v : Value) (l : List Tr) : Prop where
  box : w.heap[b]? = some (.cells #[v] 42 (0, 0))
  row : Has w S 61 2 v l.length (its l)
  nb : ¬ S b
section
variable {w w' w0 w1 : World} {b : Nat} {S T : Nat → Prop} {v : Value} {l : List Tr}
theorem Hd.lt (h : Hd w b S v l) : b < w.heap.size := (Array.getElem?_eq_some_iff.1 h.box).1
theorem Hd.c0 (h : Hd w b S v l) : w.cell? ⟨b, 0, none⟩ = some v := by rw [cell_blk h.box]; rfl
theorem Hd.fz (h : Hd w b S v l) (k : Nat) : w.frozen? ⟨b, k, none⟩ = false := by simp [World.frozen?, h.box]
theorem Hd.fr (h : Hd w b S v l) (hf : Fr w w' T) (hb : ¬ T b) (hd : ∀ k, S k → k < w.heap.size → ¬ T k) : Hd w' b S v l :=
  ⟨(hf.block b h.lt hb).trans h.box, h.row.fr hf hd, h.nb⟩
theorem Hd.below (h : Hd w b S v l) (hB : Below w.heap.size w w') : Hd w' b S v l := h.fr (T := fun _ => False) (Fr.of_below hB) (fun e => e) (fun _ _ _ e => e)
theorem Hd.inb (h : Hd w b S v l) : Hd w b (fun q => S q ∧ q < w.heap.size) v l :=
  ⟨h.box, h.row.kept (fun _ _ => rfl) (fun k hk => h.row.lt k hk), fun e => h.nb e.1⟩
theorem Hd.mono (h : Hd w b S v l) (hT : ∀ k, S k → T k) (hb : ¬ T b) : Hd w b T v l := ⟨h.box, h.row.mono hT, hb⟩
theorem Hd.cell {g n cap : Nat} (h : Hd w b S (.slice (some ⟨g, 0, none⟩) n cap) l) {i : Nat} (hi : i < l.length) : w.cell? ⟨g, i * 2, none⟩ = some (.int .i64 (tr l i).k) ∧ w.cell? ⟨g, i * 2 + 1, none⟩ = some (.int .i64 (tr l i).v) := by
  have h1 := its_get hi
  have hc := fun j u => h.row.cells (g := g) rfl j u
  exact ⟨hc _ _ h1.1, hc _ _ h1.2⟩
theorem Hd.grow1 (h : Hd w b S v l) (hB : Below w.heap.size w w0) (hg : w0.grownBy w1 v.ownBlock) : w1.heap[b]? = some (.cells #[v] 42 (0, 0)) := by
  have h0 := h.below hB
  rw [← h0.box]
  exact hg.block b h0.lt (fun e => h.nb (h.row.lt _ e.symm).1)
theorem Hd.stored (h : Hd w b S v l) (hB : Below w.heap.size w w0) (hg : w0.grownBy w1 v.ownBlock) {x : Tr} {g cap : Nat} (ho : Has w1 (fun k => S k ∨ w.heap.size ≤ k) 61 2 (.slice (some ⟨g, 0, none⟩) (l.length + 1) cap) (l.length + 1) (its l ++ x.it)) :
    Hd (w1.setCell ⟨b, 0, none⟩ (.slice (some ⟨g, 0, none⟩) (l.length + 1) cap)) b (fun k => S k ∨ w.heap.size ≤ k) (.slice (some ⟨g, 0, none⟩) (l.length + 1) cap) (l ++ [x]) ∧ Fr w (w1.setCell ⟨b, 0, none⟩ (.slice (some ⟨g, 0, none⟩) (l.length + 1) cap)) (fun k => k = b ∨ S k) := by
  have kb := h.grow1 hB hg
  have hgS := (ho.lt g rfl).1
  have hnb : ¬ (S b ∨ w.heap.size ≤ b) := fun e => e.elim h.nb (fun e => by have := h.lt; omega)
  have hgb : g ≠ b := fun e => hnb (e ▸ hgS)
  refine ⟨⟨by rw [setBlk kb]; rfl, ?_, hnb⟩, ?_⟩
  · rw [its_app, its_one, List.length_append]
    exact ho.setCell _ _ (by simp [Value.ownBlock]; exact hgb)
  · have f0 : Fr w w0 (fun k => k = b ∨ S k) := Fr.of_below hB
    exact (f0.grown hg (fun k hk => .inl (.inr (h.row.lt k hk).1))).setCell ⟨b, 0, none⟩ _ (.inl (.inl rfl))
end
set_option maxHeartbeats 8000000 in
theorem rput_any {w : World} {b : Nat} {S : Nat → Prop} {v : Value} {l : List Tr} (h : Hd w b S v l) (hlm : l.length ≤ 8000000000000) (k x p : Int) :
    Calls Try.prog 18 #[.pointer (some ⟨b, 0, none⟩), .int .i64 k, .int .i64 x] w fun e w' => e = .returned (.tuple #[]) ∧ ∃ v', Hd w' b (fun q => S q ∨ w.heap.size ≤ q) v' (l ++ [⟨k, x, p⟩]) ∧ Fr w w' (fun q => q = b ∨ S q) := by
  obtain ⟨i0, hi0, hz0, hz1, hz2⟩ := parts_of pr_item
  obtain ⟨a, cap, rfl, hcap⟩ := h.row.form
  have k0 := h.c0
  have kl := h.lt
  have hB1 : ∀ o, Below w.heap.size w (w.alloc o) := fun o => (Below.refl _ _).alloc (Nat.le_refl _) o
  have law := fun w1 (hB : Below w.heap.size w w1) => (h.row.below hB).mono (T := fun q => S q ∨ w.heap.size ≤ q) (fun q hq => Or.inl hq)
  replace law := Mr.hid law
  replace hB1 := Mr.hid hB1
  have hx := Mr.hid h
  clear h
  go_enter Try.func18, Try.ntmps18
  go_wp2_with (at_builtin; refine wpList_append_has _ rfl (.tmp 10) (.tmp 14) 40 rfl (fun q => S q ∨ w.heap.size ≤ q) 61 i0 _ 2 16 Try.underlying40 hi0 hz0 hz1 hz2 rfl (.slice a l.length cap) l.length (its l) rfl (law.out _ (hB1.out _)) ⟨w.heap.size, 0, none⟩ 1 1 [.int .i64 k, .int .i64 x] rfl rfl (newsAt w _ #[.int .i64 k, .int .i64 x] 61 _ rfl rfl) (by simp [Value.oneCell']) (by omega) (by unfold maxLen; omega) (by omega) (by right; simp) ?_; intro g cap' w1 hown hgrow hat; have kb := hx.out.grow1 (hB1.out _) hgrow; have kc : w1.cell? ⟨b, 0, none⟩ = some (.slice a l.length cap) := (by simp [World.cell?, kb]); have kf : w1.frozen? ⟨b, 0, none⟩ = false := (by simp [World.frozen?, kb]); have kq := (Array.getElem?_eq_some_iff.1 kb).1; have hend := Mr.hid (hx.out.stored (x := ⟨k, x, p⟩) (hB1.out _) hgrow hown); clear hown hgrow hat kb)
  go_end0
  exact ⟨rfl, _, hend.out.1, hend.out.2⟩
theorem rnext_none {w : World} {b : Nat} {S : Nat → Prop} {v : Value} (h : Hd w b S v []) :
    Calls Try.prog 20 #[.pointer (some ⟨b, 0, none⟩)] w fun e w' => e = .returned (.tuple #[.int .i64 0, .int .i64 0, .bool false]) ∧ w' = w := by
  obtain ⟨a, cap, rfl, hcap⟩ := h.row.form
  have k0 := h.c0
  have kl := h.lt
  replace h := Mr.hid h
  go_enter Try.func20, Try.ntmps20
  go_wp2
  go_ret3
  exact ⟨rfl, rfl⟩
end Go.Proofs.Ytfbneodldlcdjaa.Sh
