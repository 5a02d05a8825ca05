import Derived.Test.YtmejblmeaipahaaDoorJ33
/-
  TSO: the document's Copy.
-/
namespace Go.Proofs.YtmejblmeaipahaaDoor.Ts
open Go.RowKit Mr
set_option linter.unusedVariables false
set_option linter.unusedSimpArgs false
set_option maxRecDepth 100000
/-- What Copy hands out. -/
structure CpO (w wr : World) (s : Sv) (n0 n1 n2 n3 : Nat) (a0 : Option Addr) (c0 : Nat) (a1 : Option Addr) (c1 : Nat) (a2 : Option Addr) (c2 : Nat) (a3 : Option Addr) (c3 m0 m1 m2 : Nat) : Prop where
  r0 : Has wr (fun k => w.heap.size + 3 ≤ k ∧ k < m0) 3 1 (.slice a0 n0 c0) n0 (intsV s.ws)
  r1 : Has wr (fun k => m0 ≤ k ∧ k < m1) 67 4 (.slice a1 n1 c1) n1 (rgV s.rg)
  r2 : Has wr (fun k => m1 ≤ k ∧ k < m2) 3 1 (.slice a2 n2 c2) n2 (intsV s.pl)
  ord : w.heap.size + 3 ≤ m0 ∧ m0 ≤ m1 ∧ m1 ≤ m2 ∧ m2 ≤ wr.heap.size
  row : ∃ rv, Has wr (fun k => m2 ≤ k) 68 1 (.slice a3 n3 c3) n3 rv ∧ (∀ j b, j < n3 → s.bf[j]? = some b → ∃ a' c', rv[j]? = some (.slice a' b.length c') ∧ Has wr (fun k => m2 ≤ k ∧ (Value.slice a3 n3 c3).ownBlock ≠ some k) 70 2 (.slice a' b.length c') b.length (pdV b)) ∧ ∀ j j' u u' k, j < n3 → j' < n3 → j ≠ j' → rv[j]? = some u → rv[j']? = some u' → u.ownBlock = some k → u'.ownBlock ≠ some k
  bel : Below w.heap.size w wr
theorem Cq.start {w w1 w2 w3 w4 : World} {s : Sv} {vs : Array Value} {n0 n1 n2 : Nat} {a0 : Option Addr} {c0 : Nat} {a1 : Option Addr} {c1 : Nat} {a2 : Option Addr} {c2 : Nat} (hs : w1.heap.size = w.heap.size + 3) (hB : Below w.heap.size w w1)
    (hl : w1.heap[w.heap.size]? = some (.cells vs 32 (0, 0))) (hr : w1.heap[w.heap.size + 1]? = some (.cells #[.slice none 0 0, .slice none 0 0, .slice none 0 0, .slice none 0 0] 32 (0, 0))) (hx : w1.heap[w.heap.size + 2]? = some (.cells #[.slice none 0 0, .slice none 0 0, .slice none 0 0, .slice none 0 0] 32 (0, 0)))
    (h2 : Has w2 (fun k => w1.heap.size ≤ k ∧ k < w2.heap.size) 3 1 (.slice a0 n0 c0) n0 (intsV s.ws)) (b2 : Below w1.heap.size w1 w2)
    (h3 : Has w3 (fun k => w2.heap.size ≤ k ∧ k < w3.heap.size) 67 4 (.slice a1 n1 c1) n1 (rgV s.rg)) (b3 : Below w2.heap.size (w2.setCell ⟨w.heap.size + 2, 0, none⟩ (.slice a0 n0 c0)) w3)
    (h4 : Has w4 (fun k => w3.heap.size ≤ k ∧ k < w4.heap.size) 3 1 (.slice a2 n2 c2) n2 (intsV s.pl)) (b4 : Below w3.heap.size (w3.setCell ⟨w.heap.size + 2, 1, none⟩ (.slice a1 n1 c1)) w4) :
    Cq w (w4.setCell ⟨w.heap.size + 2, 2, none⟩ (.slice a2 n2 c2)) s vs n0 n1 n2 a0 c0 a1 c1 a2 c2 w2.heap.size w3.heap.size w4.heap.size 0 (.slice none 0 0) := by
  have s2 := b2.size
  have s3 : w2.heap.size ≤ w3.heap.size := by have := b3.size; simpa using this
  have s4 : w3.heap.size ≤ w4.heap.size := by have := b4.size; simpa using this
  have k2 : ∀ k, k < w1.heap.size → k ≠ w.heap.size + 2 → (w4.setCell ⟨w.heap.size + 2, 2, none⟩ (.slice a2 n2 c2)).heap[k]? = w1.heap[k]? := fun k hk hne =>
    (Below.heap_setCell _ _ _ _ hne).trans ((b4.block k (by omega)).trans ((Below.heap_setCell _ _ _ _ hne).trans ((b3.block k (by omega)).trans ((Below.heap_setCell _ _ _ _ hne).trans (b2.block k hk)))))
  have k3 : ∀ k, k < w2.heap.size → k ≠ w.heap.size + 2 → (w4.setCell ⟨w.heap.size + 2, 2, none⟩ (.slice a2 n2 c2)).heap[k]? = w2.heap[k]? := fun k hk hne =>
    (Below.heap_setCell _ _ _ _ hne).trans ((b4.block k (by omega)).trans ((Below.heap_setCell _ _ _ _ hne).trans ((b3.block k hk).trans (Below.heap_setCell _ _ _ _ hne))))
  have k4 : ∀ k, k < w3.heap.size → k ≠ w.heap.size + 2 → (w4.setCell ⟨w.heap.size + 2, 2, none⟩ (.slice a2 n2 c2)).heap[k]? = w3.heap[k]? := fun k hk hne =>
    (Below.heap_setCell _ _ _ _ hne).trans ((b4.block k hk).trans (Below.heap_setCell _ _ _ _ hne))
  refine ⟨(k2 _ (by omega) (by omega)).trans hl, (k2 _ (by omega) (by omega)).trans hr, ?_, ?_, ?_, ?_, ⟨by omega, s3, s4, by simp⟩, ⟨[], Has.nil _ _ _ _, fun j b hj => by omega, fun j j' u u' k hj => by omega⟩, ?_⟩
  · have e1 := md_heap (j := 0) (u := .slice a0 n0 c0) ((b2.block _ (by omega)).trans hx)
    have e2 := md_heap (j := 1) (u := .slice a1 n1 c1) ((b3.block _ (by omega)).trans e1)
    exact md_heap (j := 2) (u := .slice a2 n2 c2) ((b4.block _ (by omega)).trans e2)
  · exact h2.kept (fun k hk => k3 k (h2.lt k hk).2 (by have := (h2.lt k hk).1; omega)) (fun k hk => by have := (h2.lt k hk).1; omega)
  · exact h3.kept (fun k hk => k4 k (h3.lt k hk).2 (by have := (h3.lt k hk).1; omega)) (fun k hk => (h3.lt k hk).1)
  · exact h4.kept (fun k hk => Below.heap_setCell _ _ _ _ (by have := (h4.lt k hk).1; show k ≠ w.heap.size + 2; omega)) (fun k hk => (h4.lt k hk).1)
  · have q : w.heap.size ≤ w.heap.size + 2 := by omega
    have e1 := (hB.trans (b2.mono (by omega))).setCell (p := ⟨w.heap.size + 2, 0, none⟩) q (.slice a0 n0 c0)
    have e2 := (e1.trans (b3.mono (by omega))).setCell (p := ⟨w.heap.size + 2, 1, none⟩) q (.slice a1 n1 c1)
    exact (e2.trans (b4.mono (by omega))).setCell (p := ⟨w.heap.size + 2, 2, none⟩) q _
theorem Cq.done {w wr W' : World} {s : Sv} {vs : Array Value} {n0 n1 n2 n3 : Nat} {a0 : Option Addr} {c0 : Nat} {a1 : Option Addr} {c1 : Nat} {a2 : Option Addr} {c2 : Nat} {a3 : Option Addr} {c3 m0 m1 m2 : Nat} (h : Cq w wr s vs n0 n1 n2 a0 c0 a1 c1 a2 c2 m0 m1 m2 n3 (.slice a3 n3 c3)) (hk : ∀ k, w.heap.size + 2 ≤ k → W'.heap[k]? = wr.heap[k]?) (hs : wr.heap.size ≤ W'.heap.size) (hB : Below w.heap.size w W') :
    CpO w W' s n0 n1 n2 n3 a0 c0 a1 c1 a2 c2 a3 c3 m0 m1 m2 := by
  obtain ⟨o1, o2, o3, o4⟩ := h.ord
  obtain ⟨rv, q1, q2, q3⟩ := h.row
  refine ⟨h.r0.kept (fun k e => hk k (by have := (h.r0.lt k e).1; omega)) (fun k e => (h.r0.lt k e).1), h.r1.kept (fun k e => hk k (by have := (h.r1.lt k e).1; omega)) (fun k e => (h.r1.lt k e).1), h.r2.kept (fun k e => hk k (by have := (h.r2.lt k e).1; omega)) (fun k e => (h.r2.lt k e).1), ⟨o1, o2, o3, by omega⟩, ⟨rv, q1.kept (fun k e => hk k (by have := (q1.lt k e).1; omega)) (fun k e => (q1.lt k e).1), fun j b hj hb => ?_, q3⟩, hB⟩
  obtain ⟨a', c', e1, e2⟩ := q2 j b hj hb
  exact ⟨a', c', e1, e2.kept (fun k e => hk k (by have := (e2.lt k e).1.1; omega)) (fun k e => (e2.lt k e).1)⟩
set_option maxHeartbeats 16000000 in
theorem rCopy_any (s : Sv) (a0 : Option Addr) (n0 k0 : Nat) (a1 : Option Addr) (n1 k1 : Nat) (a2 : Option Addr) (n2 k2 : Nat) (a3 : Option Addr) (n3 k3 : Nat) (w : World) (h0 : IsAt w a0 n0 s.ws) (h1 : RgAt w a1 n1 s.rg) (h2 : IsAt w a2 n2 s.pl) (h3 : BfAt w a3 n3 s.bf) (z0 : n0 * 8 ≤ 140737488351232) (z1 : n1 * 32 ≤ 140737488351232) (z2 : n2 * 8 ≤ 140737488351232) (z3 : n3 * 24 ≤ 140737488351232) (z4 : ∀ b ∈ s.bf, b.length * 16 ≤ 140737488351232) :
    Calls Tryd.prog 16 #[.agg #[.slice a0 n0 k0, .slice a1 n1 k1, .slice a2 n2 k2, .slice a3 n3 k3]] w fun e w' => ∃ b0 c0 b1 c1 b2 c2 b3 c3 m0 m1 m2, e = .returned (.agg #[.slice b0 n0 c0, .slice b1 n1 c1, .slice b2 n2 c2, .slice b3 n3 c3]) ∧ CpO w w' s n0 n1 n2 n3 b0 c0 b1 c1 b2 c2 b3 c3 m0 m1 m2 := by
  obtain ⟨ii, hii, hi0, hi1, hi2⟩ := info_i
  obtain ⟨i4, h4i, h40, h41, h42⟩ := info_4
  obtain ⟨ip, hpi, hp0, hp1, hp2⟩ := info_p
  obtain ⟨iq, hqi, hq0, hq1, hq2⟩ := info_ps
  have hl3 := Mr.hid h3.1
  have B1 : Below w.heap.size w (((w.alloc (.cells #[.slice a0 n0 k0, .slice a1 n1 k1, .slice a2 n2 k2, .slice a3 n3 k3] 32)).alloc (.cells #[.slice none 0 0, .slice none 0 0, .slice none 0 0, .slice none 0 0] 32)).alloc (.cells #[.slice none 0 0, .slice none 0 0, .slice none 0 0, .slice none 0 0] 32)) := (((Below.refl _ _).alloc (Nat.le_refl _) _).alloc (by simp) _).alloc (by simp; omega) _
  have e0 : (((w.alloc (.cells #[.slice a0 n0 k0, .slice a1 n1 k1, .slice a2 n2 k2, .slice a3 n3 k3] 32)).alloc (.cells #[.slice none 0 0, .slice none 0 0, .slice none 0 0, .slice none 0 0] 32)).alloc (.cells #[.slice none 0 0, .slice none 0 0, .slice none 0 0, .slice none 0 0] 32)).heap[w.heap.size]? = some (.cells #[.slice a0 n0 k0, .slice a1 n1 k1, .slice a2 n2 k2, .slice a3 n3 k3] 32 (0, 0)) := (Lib.alloc_old _ _ _ (by simp; omega)).trans ((Lib.alloc_old _ _ _ (by simp)).trans (new_at _ _ _ rfl))
  have e1 : (((w.alloc (.cells #[.slice a0 n0 k0, .slice a1 n1 k1, .slice a2 n2 k2, .slice a3 n3 k3] 32)).alloc (.cells #[.slice none 0 0, .slice none 0 0, .slice none 0 0, .slice none 0 0] 32)).alloc (.cells #[.slice none 0 0, .slice none 0 0, .slice none 0 0, .slice none 0 0] 32)).heap[w.heap.size + 1]? = some (.cells #[.slice none 0 0, .slice none 0 0, .slice none 0 0, .slice none 0 0] 32 (0, 0)) := (Lib.alloc_old _ _ _ (by simp)).trans (new_at _ _ _ (by simp))
  have e2 : (((w.alloc (.cells #[.slice a0 n0 k0, .slice a1 n1 k1, .slice a2 n2 k2, .slice a3 n3 k3] 32)).alloc (.cells #[.slice none 0 0, .slice none 0 0, .slice none 0 0, .slice none 0 0] 32)).alloc (.cells #[.slice none 0 0, .slice none 0 0, .slice none 0 0, .slice none 0 0] 32)).heap[w.heap.size + 1 + 1]? = some (.cells #[.slice none 0 0, .slice none 0 0, .slice none 0 0, .slice none 0 0] 32 (0, 0)) := new_at _ _ _ (by simp)
  have es : (((w.alloc (.cells #[.slice a0 n0 k0, .slice a1 n1 k1, .slice a2 n2 k2, .slice a3 n3 k3] 32)).alloc (.cells #[.slice none 0 0, .slice none 0 0, .slice none 0 0, .slice none 0 0] 32)).alloc (.cells #[.slice none 0 0, .slice none 0 0, .slice none 0 0, .slice none 0 0] 32)).heap.size = w.heap.size + 3 := by simp
  have h0' := Mr.hid (h0.below B1)
  replace h3 := Mr.hid h3
  replace z4 := Mr.hid z4
  have e0' := Mr.hid e0
  have e1' := Mr.hid e1
  have e2' := Mr.hid e2
  have es' := Mr.hid es
  have B1' := Mr.hid B1
  have p0 := cell_blk e0 0
  have p1 := cell_blk e0 1
  have p2 := cell_blk e0 2
  have l0 := (Array.getElem?_eq_some_iff.1 e0).1
  have l2 := (Array.getElem?_eq_some_iff.1 e2).1
  have x0 := cell_blk e2 0
  have hl0 := Mr.hid h0.1
  have hl1 := Mr.hid h1.1
  have hl2 := Mr.hid h2.1
  replace h1 := Mr.hid h1
  replace h2 := Mr.hid h2
  clear h0 e0 e1 e2 es B1
  go_enter Tryd.func16, Tryd.ntmps16
  go_upto_region 2 with fail
  generalize (((w.alloc (.cells #[.slice a0 n0 k0, .slice a1 n1 k1, .slice a2 n2 k2, .slice a3 n3 k3] 32)).alloc (.cells #[.slice none 0 0, .slice none 0 0, .slice none 0 0, .slice none 0 0] 32)).alloc (.cells #[.slice none 0 0, .slice none 0 0, .slice none 0 0, .slice none 0 0] 32)) = w1 at *
  generalize hbx0 : w.heap.size + 1 + 1 = bx at e2' l2 x0 ⊢
  have hbx : Hid (bx = w.heap.size + 2) := by show _ = _; omega
  have nbx : Hid (w.heap.size ≠ bx) := by show _ ≠ _; omega
  have gbx : Hid (w.heap.size ≤ bx) := by show _ ≤ _; omega
  clear hbx0
  go_upto_region 3 with (at_builtin; refine wpList_plain rfl fun _ hK => wp_app_nil _ _ 22 rfl 3 ii _ 1 8 Tryd.underlying22 hii hi0 hi1 hi2 rfl (by decide) rfl _ _ _ (intsV s.ws) rfl (by have := hl0.out; simp [intsV]; omega) (by decide) h0'.out.news (intsV_one _) (by omega) (by omega) (fun b0 c0 w2 hc0 H2 B2 => hK _ _ ?_); clear hK; have D2 := (B2.block _ l2).trans e2'.out; have y0 := cell_blk D2 0; have ly := (Array.getElem?_eq_some_iff.1 D2).1; have fy : ∀ k, w2.frozen? ⟨bx, k, none⟩ = false := fun k => fzC D2)
  clear y0 ly fy
  have E2 : (w2.setCell ⟨bx, 0, none⟩ (.slice b0 n0 c0)).heap[bx]? = some (.cells #[.slice b0 n0 c0, .slice none 0 0, .slice none 0 0, .slice none 0 0] 32 (0, 0)) := md_heap (j := 0) (u := .slice b0 n0 c0) ((B2.block _ l2).trans e2'.out)
  have E20 : (w2.setCell ⟨bx, 0, none⟩ (.slice b0 n0 c0)).heap[w.heap.size]? = some (.cells #[.slice a0 n0 k0, .slice a1 n1 k1, .slice a2 n2 k2, .slice a3 n3 k3] 32 (0, 0)) := (Below.heap_setCell _ _ _ _ nbx.out).trans ((B2.block _ l0).trans e0'.out)
  have S2 : Hid ((w2.setCell ⟨bx, 0, none⟩ (.slice b0 n0 c0)).heap.size = w2.heap.size) := by show _ = _; simp
  have G1 : Hid (Below w.heap.size w (w2.setCell ⟨bx, 0, none⟩ (.slice b0 n0 c0))) := (B1'.out.trans (B2.mono B1'.out.size)).setCell (p := ⟨bx, 0, none⟩) gbx.out _
  clear p0 x0
  have p1' := cell_blk E20 1
  have x1 := cell_blk E2 1
  have L0 := (Array.getElem?_eq_some_iff.1 E20).1
  have L2 := (Array.getElem?_eq_some_iff.1 E2).1
  have h1n := Mr.hid ((h1.out.below G1.out).news)
  have E2h := Mr.hid E2
  have E20h := Mr.hid E20
  clear E2 E20 p1 p2 l0 l2
  have hw2 : Hid (w2.setCell ⟨bx, 0, none⟩ (.slice b0 n0 c0) = w2.setCell ⟨bx, 0, none⟩ (.slice b0 n0 c0)) := rfl
  generalize hg2 : w2.setCell ⟨bx, 0, none⟩ (.slice b0 n0 c0) = v2 at h1n E2h E20h p1' x1 L0 L2 G1 S2 ⊢
  replace hg2 := Mr.hid hg2
  go_upto_region 4 with (at_builtin; refine wpList_plain rfl fun _ hK => wp_app_nil _ _ 29 rfl 67 i4 _ 4 32 Tryd.underlying29 h4i h40 h41 h42 rfl (by decide) rfl _ _ _ (rgV s.rg) rfl (by have := hl1.out; rw [rgV_len]; omega) (by decide) h1n.out (rgV_one _) (by omega) (by omega) (fun b1 c1 w3 hc1 H3 B3 => hK _ _ ?_); clear hK; have D3 := (B3.block _ L2).trans E2h.out; have y0 := cell_blk D3 1; have ly := (Array.getElem?_eq_some_iff.1 D3).1; have fy : ∀ k, w3.frozen? ⟨bx, k, none⟩ = false := fun k => fzC D3)
  clear y0 ly fy
  have E3 : (w3.setCell ⟨bx, 1, none⟩ (.slice b1 n1 c1)).heap[bx]? = some (.cells #[.slice b0 n0 c0, .slice b1 n1 c1, .slice none 0 0, .slice none 0 0] 32 (0, 0)) := md_heap (j := 1) (u := .slice b1 n1 c1) ((B3.block _ L2).trans E2h.out)
  have E30 : (w3.setCell ⟨bx, 1, none⟩ (.slice b1 n1 c1)).heap[w.heap.size]? = some (.cells #[.slice a0 n0 k0, .slice a1 n1 k1, .slice a2 n2 k2, .slice a3 n3 k3] 32 (0, 0)) := (Below.heap_setCell _ _ _ _ nbx.out).trans ((B3.block _ L0).trans E20h.out)
  have G2 : Hid (Below w.heap.size w (w3.setCell ⟨bx, 1, none⟩ (.slice b1 n1 c1))) := (G1.out.trans (B3.mono G1.out.size)).setCell (p := ⟨bx, 1, none⟩) gbx.out _
  have p2' := cell_blk E30 2
  have x2 := cell_blk E3 2
  have M0 := (Array.getElem?_eq_some_iff.1 E30).1
  have M2 := (Array.getElem?_eq_some_iff.1 E3).1
  have h2n := Mr.hid ((h2.out.below G2.out).news)
  have E3h := Mr.hid E3
  have E30h := Mr.hid E30
  clear E3 E30 p1' x1 L0 L2
  generalize hg3 : w3.setCell ⟨bx, 1, none⟩ (.slice b1 n1 c1) = v3 at h2n E3h E30h p2' x2 M0 M2 G2 ⊢
  replace hg3 := Mr.hid hg3
  go_upto_region 5 with (at_builtin; refine wpList_plain rfl fun _ hK => wp_app_nil _ _ 22 rfl 3 ii _ 1 8 Tryd.underlying22 hii hi0 hi1 hi2 rfl (by decide) rfl _ _ _ (intsV s.pl) rfl (by have := hl2.out; simp [intsV]; omega) (by decide) h2n.out (intsV_one _) (by omega) (by omega) (fun b2 c2 w4 hc2 H4 B4 => hK _ _ ?_); clear hK; have D4 := (B4.block _ M2).trans E3h.out; have y0 := cell_blk D4 2; have ly := (Array.getElem?_eq_some_iff.1 D4).1; have fy : ∀ k, w4.frozen? ⟨bx, k, none⟩ = false := fun k => fzC D4)
  clear y0 ly fy
  have CS : Hid (Cq w (w4.setCell ⟨bx, 2, none⟩ (.slice b2 n2 c2)) s #[.slice a0 n0 k0, .slice a1 n1 k1, .slice a2 n2 k2, .slice a3 n3 k3] n0 n1 n2 b0 c0 b1 c1 b2 c2 w2.heap.size w3.heap.size w4.heap.size 0 (.slice none 0 0)) := by
    have e2s : v2.heap.size = w2.heap.size := by rw [← hg2.out]; simp
    have e3s : v3.heap.size = w3.heap.size := by rw [← hg3.out]; simp
    have hb := hbx.out
    clear nbx gbx
    subst hb
    refine Cq.start es'.out B1'.out e0'.out e1'.out e2'.out H2 B2 ?_ ?_ ?_ ?_
    · rw [← e2s]; exact H3
    · rw [hg2.out, ← e2s]; exact B3
    · rw [← e3s]; exact H4
    · rw [hg3.out, ← e3s]; exact B4
  clear H2 B2 H3 B3 H4 B4 e0' e1' e2' es' B1' G1 G2 S2 h0' h1n h2n E2h E20h E3h E30h M0 M2 p2' x2 hw2 hg2 hg3
  generalize w2.heap.size = m0 at CS
  generalize w3.heap.size = m1 at CS
  generalize w4.heap.size = m2 at CS
  generalize w4.setCell ⟨bx, 2, none⟩ (.slice b2 n2 c2) = w5 at *
  go_upto_region 6 with fail
  go_loopg [4] n3 (fun gk s4 wr => ∃ (i : Nat) (v : Value), s4 = .int .i64 (i : Int) ∧ i + gk = n3 ∧ Cq w wr s #[.slice a0 n0 k0, .slice a1 n1 k1, .slice a2 n2 k2, .slice a3 n3 k3] n0 n1 n2 b0 c0 b1 c1 b2 c2 m0 m1 m2 i v)
  case atStart => exact ⟨0, _, rfl, by omega, CS.out⟩
  case round =>
    obtain ⟨i, v, rfl, hi, hW⟩ := hrel
    have y3 := cell_blk hW.lbx 3
    have l0 := (Array.getElem?_eq_some_iff.1 hW.lbx).1
    have xb := hW.xbx
    rw [← hbx.out] at xb
    have z3' := cell_blk xb 3
    have l2 := (Array.getElem?_eq_some_iff.1 xb).1
    replace xb := Mr.hid xb
    obtain ⟨rv, hrow, hrv⟩ := hW.row
    obtain ⟨av, cv, rfl, hcv⟩ := hrow.form
    clear CS
    by_cases hlt : i < n3
    · have hlI : (i : Int) < (n3 : Int) := by omega
      have dl : decide ((i : Int) < (n3 : Int)) = true := by simpa using hlI
      have hli : i < s.bf.length := by have := hl3.out; omega
      obtain ⟨x, hx⟩ : ∃ x, s.bf[i]? = some x := ⟨s.bf[i], List.getElem?_eq_getElem hli⟩
      obtain ⟨g, q, ab, nb, kb, rfl, hg0, tc0, hnb, hP0⟩ := h3.out.at hx
      have tc := (hW.bel.cell (p := ⟨g, q + i, none⟩) hg0).trans tc0
      have hg : g < wr.heap.size := Nat.lt_of_lt_of_le hg0 hW.bel.size
      have hP := Mr.hid (hP0.below hW.bel)
      have hxz := z4.out x (List.mem_of_getElem? hx)
      have hw : IntKind.i64.wrap ((i : Int) + 1) = (i : Int) + 1 := i64x _ (by omega) (by omega)
      subst hnb
      have hpn := Mr.hid hP.out.news
      have hi' := Mr.hid hi
      have hx' := Mr.hid hx
      have hW' := Mr.hid hW
      replace hrow := Mr.hid hrow
      replace hrv := Mr.hid hrv
      clear hW hx hi hli hP0 tc0 hg0
      go_upto_region 10 with (at_builtin; refine wpList_plain rfl fun _ hK => wp_app_nil _ _ 68 rfl 70 ip _ 2 16 Tryd.underlying68 hpi hp0 hp1 hp2 rfl (by decide) rfl _ _ _ (pdV x) rfl (by rw [pdV_len]) (by decide) hpn.out (pdV_one _) (by omega) (by omega) (fun ub ucp wb hub Hb Bb => hK _ _ ?_); clear hK)
      have xqb := (Below.heap_alloc wb (.cells #[.slice ub x.length ucp] 68) bx (Nat.lt_of_lt_of_le l2 Bb.size)).trans ((Bb.block bx l2).trans xb.out)
      have xqa := (Bb.block bx l2).trans xb.out
      have xq1 := cell_blk xqa 3
      have lq1 := (Array.getElem?_eq_some_iff.1 xqa).1
      clear xqa
      have xq2 := cell_blk xqb 3
      have lq2 := (Array.getElem?_eq_some_iff.1 xqb).1
      replace xqb := Mr.hid xqb
      have nq := new_at wb (.cells #[.slice ub x.length ucp] 68) _ rfl
      have hro : Hid (Has (wb.alloc (.cells #[.slice ub x.length ucp] 68)) (fun k => m2 ≤ k) 68 1 (.slice av i cv) i rv) := (hrow.out.below Bb).alloc _
      have hm2 : Hid (m2 ≤ wr.heap.size) := hW'.out.ord.2.2.2
      have hsz : Hid (wr.heap.size ≤ wb.heap.size) := Bb.size
      replace Hb := Mr.hid Hb
      replace Bb := Mr.hid Bb
      clear tc hg y3 l0 z3' l2
      go_wp2_with (at_builtin; refine wpList_append_has _ rfl _ _ 30 rfl (fun k => m2 ≤ k) 68 iq _ 1 24 Tryd.underlying30 hqi hq0 hq1 hq2 rfl (.slice av i cv) i rv rfl hro.out ⟨wb.heap.size, 0, none⟩ 1 1 [.slice ub x.length ucp] rfl rfl (by
        intro j u hj
        rw [add1]
        match j, hj with
        | 0, hj => cases hj; exact cell_blk nq 0) (by simp [Value.oneCell']) (by omega) (by unfold maxLen; omega) (by omega) (by have := hm2.out; have := hsz.out; simp; omega) ?_; intro g4 cap4 w4 hh4 hgr4 hgg4; have D4 := (hgr4.block bx lq2 (fun e => by have := (hro.out.lt bx e.symm).1; have := hW'.out.ord; have := hbx.out; omega)).trans xqb.out; have y0 := cell_blk D4 3; have ly := (Array.getElem?_eq_some_iff.1 D4).1; have fy : ∀ k, w4.frozen? ⟨bx, k, none⟩ = false := fun k => fzC D4)
      have CN : Hid (Cq w (w4.setCell ⟨bx, 3, none⟩ (.slice (some ⟨g4, 0, none⟩) (i + 1) cap4)) s #[.slice a0 n0 k0, .slice a1 n1 k1, .slice a2 n2 k2, .slice (some ⟨g, q, none⟩) n3 k3] n0 n1 n2 b0 c0 b1 c1 b2 c2 m0 m1 m2 (i + 1) (.slice (some ⟨g4, 0, none⟩) (i + 1) cap4)) := by
        have hb := hbx.out
        clear nbx gbx xq1 xq2 lq1 lq2 xqb xb D4 y0 ly fy
        subst hb
        exact hW'.out.next hx'.out Bb.out Hb.out hrow.out hrv.out hh4 hgr4 hgg4
      clear hh4 hgr4 hgg4
      go_roundg (gk - 1)
      case measure => have := hi'.out; omega
      case rel => exact ⟨i + 1, _, by simp, by have := hi'.out; omega, CN.out⟩
    · have dl : decide ((i : Int) < (n3 : Int)) = false := decide_eq_false (by omega)
      have dl2 : ¬ (i : Int) < (n3 : Int) := by omega
      obtain rfl : i = n3 := by omega
      have r1 := hW.rbx
      have y0 := cell_blk r1 0
      have y1 := cell_blk r1 1
      have y2 := cell_blk r1 2
      have y4 := cell_blk r1 3
      have ly := (Array.getElem?_eq_some_iff.1 r1).1
      have fy : ∀ j, wr.frozen? ⟨w.heap.size + 1, j, none⟩ = false := fun j => fzC r1
      have z0' := cell_blk xb.out 0
      have z1' := cell_blk xb.out 1
      have z2' := cell_blk xb.out 2
      have hW' := Mr.hid hW
      clear r1 hW hlt hrv hrow
      go_wp2
      have BE : Hid (Below w.heap.size w ((((wr.setCell ⟨w.heap.size + 1, 0, none⟩ (.slice b0 n0 c0)).setCell ⟨w.heap.size + 1, 1, none⟩ (.slice b1 n1 c1)).setCell ⟨w.heap.size + 1, 2, none⟩ (.slice b2 n2 c2)).setCell ⟨w.heap.size + 1, 3, none⟩ (.slice av i cv))) := (((hW'.out.bel.setCell (p := ⟨w.heap.size + 1, 0, none⟩) (by show w.heap.size ≤ w.heap.size + 1; omega) _).setCell (p := ⟨w.heap.size + 1, 1, none⟩) (by show w.heap.size ≤ w.heap.size + 1; omega) _).setCell (p := ⟨w.heap.size + 1, 2, none⟩) (by show w.heap.size ≤ w.heap.size + 1; omega) _).setCell (p := ⟨w.heap.size + 1, 3, none⟩) (by show w.heap.size ≤ w.heap.size + 1; omega) _
      have DE := Mr.hid (hW'.out.done (fun k (hk : w.heap.size + 2 ≤ k) => by
        have hj' : k ≠ w.heap.size + 1 := by omega
        exact (Below.heap_setCell _ _ _ _ hj').trans ((Below.heap_setCell _ _ _ _ hj').trans ((Below.heap_setCell _ _ _ _ hj').trans (Below.heap_setCell _ _ _ _ hj')))) (by simp) BE.out)
      refine bodyPost_ret (v := .agg #[.slice b0 n0 c0, .slice b1 n1 c1, .slice b2 n2 c2, .slice av i cv]) (by simp [results, Tryd.results16, go_sem, *]) rfl ⟨b0, c0, b1, c1, b2, c2, av, cv, rfl, m0, m1, m2, DE.out⟩
end Go.Proofs.YtmejblmeaipahaaDoor.Ts
/-
  TSO: a turn of the document, of any state that is one of the program's and the order's; such a state out of Copy.
-/
namespace Go.Proofs.YtmejblmeaipahaaDoor.Ts
open Go.RowKit Mr
set_option linter.unusedVariables false
set_option linter.unusedSimpArgs false
set_option maxRecDepth 100000
/-- A turn of the document is the pure one. -/
theorem rturn_bel (l : Lt) (s : Sv) (o : Int) (B : Nat) (G : Gs) (aw ah : Option Addr) (nw cw nt ct : Nat) (tn : Tn) (w0 w : World) (hc : chkB l = true) (hsh : Shp l s) (htp : ∀ k c, l.th[k]? = some c → Tp o c.length l.ws.length (vw s k)) (ho : ordB o = true) (hD : Ds w B G s nw nt) (hw : nw = l.ws.length) (hT : ThAt w0 ah nt l.th) (hB0 : w0.heap.size ≤ B) (hBw : B ≤ w.heap.size) (hB : Below w0.heap.size w0 w) :
    Calls Tryd.prog 20 #[.agg #[.slice aw nw cw, .slice ah nt ct], .int .i64 o, .pointer (some ⟨G.p, 0, none⟩), tnV tn] w fun e w' => e = .returned (.bool (act l o s tn).isSome) ∧ Ds w' B G (trn l o s tn) nw nt ∧ Below B w w' := by
  obtain ⟨c1, c2, c3⟩ := chk_len hc
  have hl := hT.1
  have key : Calls Tryd.prog 20 #[.agg #[.slice aw nw cw, .slice ah nt ct], .int .i64 o, .pointer (some ⟨G.p, 0, none⟩), tnV tn] w fun e w' => RuP (act l o s tn) s tn.th.toNat e (fun s' => Ds w' B G s' nw nt ∧ Below B w w') := by
    by_cases hin : 0 ≤ tn.th ∧ tn.th < (nt : Int)
    · obtain ⟨th, ou, ad⟩ := tn
      dsimp only at hin ⊢
      obtain ⟨tk, rfl⟩ := Int.eq_ofNat_of_zero_le hin.1
      rw [Int.toNat_natCast]
      have htl : tk < l.th.length := by omega
      obtain ⟨cd, hcd⟩ : ∃ c, l.th[tk]? = some c := ⟨_, List.getElem?_eq_getElem htl⟩
      have hTp := htp tk cd hcd
      have hV := Vw.of hsh htl
      cases ou with
      | true => exact rturn_out l s o B G aw ah nw cw nt ct tk ad _ _ _ w hD hBw hl (by omega) (by omega) (by omega) hV hTp.b1 (by rw [hw]; exact hTp.ba) hTp.sc ho
      | false =>
        obtain ⟨ga, qa, hga, hgl, hgc⟩ := hT.2.resolve_left (by intro e; rw [e] at htl; simp at htl)
        obtain ⟨a', n', k', hcell, hnk, hC⟩ := hgc tk cd hcd
        obtain ⟨hcl, hcf⟩ := c3 cd (List.mem_of_getElem? hcd)
        obtain ⟨pc, hpc⟩ := Int.eq_ofNat_of_zero_le hTp.p0
        have hx : act l o s ⟨(tk : Int), false, ad⟩ = ins o cd (vw s tk) := by
          unfold act; dsimp only; rw [if_pos (by omega)]; simp [List.getD_eq_getElem?_getD, hcd]
        rw [hx]
        have hV' := hV
        rw [hpc] at hV'
        have hn' := hC.1
        refine rturn_ins l s o B G aw ah nw cw nt ct tk ad _ pc _ w0 w cd a' n' k' ga qa ⟨hD, hBw, by omega, by omega, by omega, hV', hTp.b1, by rw [hw]; exact hTp.ba, hTp.sc, ho, hga, by omega, (hB.cell (p := ⟨ga, qa + tk, none⟩) hgl).trans hcell, hC.below hB, fun h0 g q e => ?_, by omega, by have := hTp.p1; omega, by rw [hw]; exact hcf⟩
        obtain ⟨g9, q9, e9, l9, -⟩ := hC.2.resolve_left h0
        rw [e9] at e; cases e; omega
    · exact rturn_no l s o B G aw ah nw cw nt ct tn w hD hBw hl hin
  refine key.mono ?_
  intro e w' D
  unfold trn
  rcases D with ⟨a1, a2, a3, a4⟩ | ⟨y, a1, a2, a3, a4⟩
  · rw [a1]; exact ⟨a2, a3, a4⟩
  · rw [a1]; exact ⟨a2, a3, a4⟩
theorem has_arr {W : World} {S : Nat → Prop} {e : TypeId} {size g n c : Nat} {xs : List Value} (h : Has W S e size (.slice (some ⟨g, 0, none⟩) n c) n xs) : ∃ A : Array Value, W.heap[g]? = some (.cells A e (0, 0)) ∧ ∀ (j : Nat) (u : Value), xs[j]? = some u → A[j]? = some u := by
  rcases h.2 with ⟨e, _⟩ | ⟨g9, c9, cur, e, _, hg9, _, _, _, ht⟩
  · cases e
  · cases e
    refine ⟨cur, hg9, fun j u hj => ?_⟩
    rw [← ht, List.getElem?_take] at hj
    split at hj
    · simpa using hj
    · cases hj
/-- A state of the document out of Copy. -/
theorem CpO.ds {w w' W : World} {s : Sv} {nw nt : Nat} {a0 : Option Addr} {c0 : Nat} {a1 : Option Addr} {c1 : Nat} {a2 : Option Addr} {c2 : Nat} {a3 : Option Addr} {c3 m0 m1 m2 p : Nat} (h : CpO w w' s nw nt nt nt a0 c0 a1 c1 a2 c2 a3 c3 m0 m1 m2) (h0 : 0 < nw) (h1 : 0 < nt) (hlen : s.ws.length = nw ∧ s.rg.length = nt ∧ s.pl.length = nt ∧ s.bf.length = nt) (hp : p < w.heap.size) (hk : ∀ k, k ≠ p → W.heap[k]? = w'.heap[k]?)
    (hb : W.heap[p]? = some (.cells #[.slice a0 nw c0, .slice a1 nt c1, .slice a2 nt c2, .slice a3 nt c3] 32 (0, 0))) : ∃ G, G.p = p ∧ Ds W p G s nw nt := by
  obtain ⟨o1, o2, o3, o4⟩ := h.ord
  obtain ⟨g1, q1, e1, ⟨b1, b1'⟩, l1, -, -⟩ := h.r0.there h0
  obtain ⟨g2, q2, e2, ⟨b2, b2'⟩, l2, -, -⟩ := h.r1.there h1
  obtain ⟨g3, q3, e3, ⟨b3, b3'⟩, l3, -, -⟩ := h.r2.there h1
  obtain ⟨rv, hr, hb1, hb2⟩ := h.row
  obtain ⟨g4, q4, e4, b4, l4, -, -⟩ := hr.there h1
  cases e1; cases e2; cases e3; cases e4
  obtain ⟨A1, x1, y1⟩ := has_arr h.r0
  obtain ⟨A2, x2, y2⟩ := has_arr h.r1
  obtain ⟨A3, x3, y3⟩ := has_arr h.r2
  obtain ⟨A4, x4, y4⟩ := has_arr hr
  have hrl : rv.length = nt := by have := hr.1; omega
  refine ⟨⟨p, g1, g2, g3, g4, c0, c1, c2, c3⟩, rfl, hb, ⟨A1, (hk g1 (by omega)).trans x1, fun j x hx => y1 j _ (by simp [intsV, hx])⟩, ⟨A2, (hk g2 (by omega)).trans x2, fun t r hr k hk' => y2 _ _ (rgV_get s.rg t r hr k hk')⟩, ⟨A3, (hk g3 (by omega)).trans x3, fun j x hx => y3 j _ (by simp [intsV, hx])⟩, ⟨A4, (hk g4 (by have : m2 ≤ g4 := b4; omega)).trans x4, fun t b htb => ?_, fun t t' v v' k ht ht' hne hv hv' hvk => ?_⟩, hlen, ⟨⟨Nat.le_refl _, by show p ≤ g1; omega, by show p ≤ g2; omega, by show p ≤ g3; omega, by have : m2 ≤ g4 := b4; show p ≤ g4; omega⟩, ⟨by show p ≠ g1; omega, by show p ≠ g2; omega, by show p ≠ g3; omega, by have : m2 ≤ g4 := b4; show p ≠ g4; omega⟩, ⟨by show g1 ≠ g2; omega, by show g1 ≠ g3; omega, by have : m2 ≤ g4 := b4; show g1 ≠ g4; omega⟩, ⟨by show g2 ≠ g3; omega, by have : m2 ≤ g4 := b4; show g2 ≠ g4; omega, by have : m2 ≤ g4 := b4; show g3 ≠ g4; omega⟩⟩⟩
  · have htl := (List.getElem?_eq_some_iff.1 htb).1
    obtain ⟨a', c', z1, z2⟩ := hb1 t b (by omega) htb
    refine ⟨_, y4 t _ z1, z2.kept (fun k e => hk k (by have := (z2.lt k e).1.1; omega)) (fun k e => ?_)⟩
    obtain ⟨⟨u1, u2⟩, u3⟩ := z2.lt k e
    have hg4 : k ≠ g4 := fun e' => u2 (by rw [e']; rfl)
    exact ⟨by show p ≤ k; omega, by show k ≠ p; omega, by show k ≠ g1; omega, by show k ≠ g2; omega, by show k ≠ g3; omega, hg4⟩
  · have hrv : ∀ t, t < nt → ∃ u, rv[t]? = some u := fun t ht => ⟨_, List.getElem?_eq_getElem (by omega)⟩
    obtain ⟨u, hu⟩ := hrv t ht
    obtain ⟨u', hu'⟩ := hrv t' ht'
    have e1 := y4 t u hu
    have e2 := y4 t' u' hu'
    rw [hv] at e1
    rw [hv'] at e2
    cases e1; cases e2
    exact hb2 t t' _ _ k ht ht' hne hu hu' hvk
end Go.Proofs.YtmejblmeaipahaaDoor.Ts
