import Derived.Test.YtkfpiafgfjpodabGreatJ42
import Derived.Test.YtkfpiafgfjpodabGreatJ41
/-
  table: an arena on a machine, over the document's first words.
-/
namespace Go.Proofs.YtkfpiafgfjpodabGreat.Ar
open Go.RowKit Go.Shelf Mr Me Ma Wc Wm Wr
structure Bt (w : World) (c : Cf) (W : World) : Prop where
  s : W.heap[w.heap.size]? = some (cfO c)
  b : Below w.heap.size w W
theorem Bt.lt {w W : World} {c : Cf} (h : Bt w c W) : w.heap.size + 1 ≤ W.heap.size := (Array.getElem?_eq_some_iff.1 h.s).1
theorem Bt.below {w W W' : World} {c : Cf} (h : Bt w c W) (hB : Below (w.heap.size + 1) W W') : Bt w c W' :=
  ⟨(hB.block _ (Nat.lt_succ_self _)).trans h.s, h.b.trans (hB.mono (Nat.le_succ _))⟩
theorem Bt.cfg {w W : World} {c : Cf} (h : Bt w c W) : W.cell? ⟨w.heap.size, 0, none⟩ = some (.int .i64 c.a0) ∧ W.cell? ⟨w.heap.size, 1, none⟩ = some (.int .i64 c.a1) ∧ W.cell? ⟨w.heap.size, 2, none⟩ = some (.int .i64 c.a2) ∧ W.cell? ⟨w.heap.size, 3, none⟩ = some (.int .i64 c.a3) ∧ W.cell? ⟨w.heap.size, 4, none⟩ = some (.int .i64 c.a4) ∧ W.cell? ⟨w.heap.size, 5, none⟩ = some (.int .i64 c.a5) ∧ W.cell? ⟨w.heap.size, 6, none⟩ = some (.int .i64 c.a6) := by
  have hb := h.s
  simp [cfO] at hb
  simp [World.cell?, hb]
/-- A table's box. -/
def tbO (c : Cf) (ba b : Nat) : Obj := .cells #[.int .i64 c.a0, .int .i64 c.a1, .int .i64 c.a2, .int .i64 c.a3, .int .i64 c.a4, .int .i64 c.a5, .int .i64 c.a6, .pointer (some ⟨ba, 0, none⟩), .pointer (some ⟨b, 0, none⟩)] 32 (0, 0)
set_option maxRecDepth 100000 in
set_option maxHeartbeats 2000000 in
theorem table_ok (w : World) (c : Cf) (hc : c.ok = true) (n nt N m Kc : Nat) (h5 : c.a5 = n) (h0 : c.a0 = nt) (h4 : c.a4 = Kc) (hN : base c.a1 c.a2 c.a5 c.a6 14 = (N : Int)) (hm10 : base c.a1 c.a2 c.a5 c.a6 10 = (m : Int)) (hn0 : 0 < n) :
    Calls Tryz.prog 6 #[c.val] w fun e w' => ∃ tb U K f h, e = .returned (.pointer (some ⟨tb, 0, none⟩)) ∧ w'.heap[tb]? = some (tbO c f.ba f.q.b) ∧ RA w' U K f h (Pa.first c n nt N m Kc) ∧ (∀ k, U k → w.heap.size ≤ k ∧ k < tb) ∧ w.heap.size ≤ tb ∧ f.c = c ∧ Below w.heap.size w w' := by
  have hc' : cfgB c.a0 c.a1 c.a2 c.a3 c.a4 c.a5 c.a6 = true := hc
  have NW := fun w => new_ok c hc n nt h5 h0 w
  have FS := fun w => refFirst_all c.a0 c.a1 c.a2 c.a3 c.a4 c.a5 c.a6 0 N w (ok_of hc') hN (by omega) (by omega)
  obtain ⟨W0, hW0⟩ : ∃ W0, w.alloc (cfO c) = W0 := ⟨_, rfl⟩
  have b0 : Bt w c W0 := by
    rw [← hW0]
    exact ⟨heap_alloc_new w _, (Below.refl _ _).alloc (Nat.le_refl _) _⟩
  have s0 : W0.heap.size = w.heap.size + 1 := by rw [← hW0]; simp
  obtain ⟨y0, y1, y2, y3, y4, y5, y6⟩ := b0.cfg
  have cfgs := fun (W1 : World) (h1 : Bt w c W1) => h1.cfg
  rw [h0] at y0 cfgs
  have hcv : c.val = .agg #[.int .i64 (nt : Int), .int .i64 c.a1, .int .i64 c.a2, .int .i64 c.a3, .int .i64 c.a4, .int .i64 c.a5, .int .i64 c.a6] := by unfold Cf.val; rw [h0]
  rw [hcv] at NW ⊢
  rw [h0] at FS
  have hW0' : w.alloc (.cells #[.int .i64 (nt : Int), .int .i64 c.a1, .int .i64 c.a2, .int .i64 c.a3, .int .i64 c.a4, .int .i64 c.a5, .int .i64 c.a6] 23) = W0 := by rw [← hW0]; unfold cfO; rw [h0]
  have htb : ∀ ba b, tbO c ba b = .cells #[.int .i64 (nt : Int), .int .i64 c.a1, .int .i64 c.a2, .int .i64 c.a3, .int .i64 c.a4, .int .i64 c.a5, .int .i64 c.a6, .pointer (some ⟨ba, 0, none⟩), .pointer (some ⟨b, 0, none⟩)] 32 (0, 0) := fun ba b => by unfold tbO; rw [h0]
  replace NW := Mr.hid NW
  replace FS := Mr.hid FS
  replace h5 := Mr.hid h5
  replace h0 := Mr.hid h0
  replace h4 := Mr.hid h4
  replace hN := Mr.hid hN
  replace hm10 := Mr.hid hm10
  replace b0 := Mr.hid b0
  replace cfgs := Mr.hid cfgs
  replace htb := Mr.hid htb
  clear hc' hcv hW0
  replace hc := Mr.hid hc
  go_enter Tryz.func6, Tryz.ntmps6
  go_wp2_with (first | (go_at_call 13; refine (num_any _ _).mono ?_; rintro e wn ⟨rfl, hwn⟩; obtain rfl := hwn.symm) | (go_at_call 14; refine (NW.out _).mono ?_; clear NW; rintro e w1 ⟨ba, gs, cs, vca, vsl, rfl, hA, hB1⟩; rw [s0] at hA hB1; have b1 := b0.out.below hB1; clear y0 y1 y2 y3 y4 y5 y6; obtain ⟨y0, y1, y2, y3, y4, y5, y6⟩ := cfgs.out w1 b1; replace hA := Mr.hid hA; replace hB1 := Mr.hid hB1; replace b1 := Mr.hid b1))
  have hTl : ∀ k, (w.heap.size + 1 ≤ k ∧ k < w1.heap.size) → k < w1.heap.size := fun k hk => hk.2
  have hsl : 0 < (Ao.new n nt).sl.length := by simp [Ao.new]; exact hn0
  have KTf := fun (w2 : World) (hB2 : Below w1.heap.size w1 w2) => kit_any w2 (hA.out.kept (fun k hk => hB2.block k (hTl k hk)) (fun _ h => h)) (fun k hk => Nat.lt_of_lt_of_le (hTl k hk) hB2.size) hsl
  have NMf := fun (w2 w3 : World) (b : Nat) (hrow : Row w2 b N (fstF c.a1 c.a2 c.a5 c.a6 0)) (hB2 : Below w1.heap.size w1 w2) (hK : Ktr w3 (fun k => w2.heap.size ≤ k ∧ k < w3.heap.size) (w2.heap.size + 1) w2.heap.size ba) (hB3 : Below w2.heap.size w2 w3) => newM_first c hc.out n nt N m Kc h5.out h0.out h4.out hN.out hm10.out hA.out hTl hrow hB2 hK hB3
  replace KTf := Mr.hid KTf
  replace NMf := Mr.hid NMf
  replace hTl := Mr.hid hTl
  clear hsl
  go_region_held3 (fun w' => w'.cell? ⟨w.heap.size, 0, none⟩ = some (.int .i64 (nt : Int)) ∧ w'.cell? ⟨w.heap.size, 1, none⟩ = some (.int .i64 c.a1) ∧ w'.cell? ⟨w.heap.size, 2, none⟩ = some (.int .i64 c.a2) ∧ w'.cell? ⟨w.heap.size, 3, none⟩ = some (.int .i64 c.a3) ∧ w'.cell? ⟨w.heap.size, 4, none⟩ = some (.int .i64 c.a4) ∧ w'.cell? ⟨w.heap.size, 5, none⟩ = some (.int .i64 c.a5) ∧ w'.cell? ⟨w.heap.size, 6, none⟩ = some (.int .i64 c.a6)) (simp [*])
    (first | (go_at_call 16; refine (FS.out _).mono ?_; clear FS; rintro e w2 ⟨b, rfl, hb2, hrow, hB2⟩; have hB2' : Below w1.heap.size w1 w2 := ((Below.refl _ w1).drew).trans hB2; have b2 := b1.out.below (hB2'.mono b1.out.lt); obtain ⟨x0, x1, x2, x3, x4, x5, x6⟩ := cfgs.out w2 b2; have KT := KTf.out w2 hB2'; clear KTf; replace KT := Mr.hid KT; replace hrow := Mr.hid hrow; replace hB2' := Mr.hid hB2'; replace b2 := Mr.hid b2; replace hb2 := Mr.hid hb2; clear hB2) | (go_at_call 17; refine KT.out.mono ?_; clear KT; rintro e w3 ⟨rfl, hK, hB3⟩; have b3 := b2.out.below (hB3.mono b2.out.lt); obtain ⟨z0, z1, z2, z3, z4, z5, z6⟩ := cfgs.out w3 b3; have NM3 := NMf.out w2 w3 b hrow.out hB2'.out hK hB3; clear NMf; replace NM3 := Mr.hid NM3; replace hK := Mr.hid hK; replace hB3 := Mr.hid hB3; replace b3 := Mr.hid b3) | (go_at_call 15; refine NM3.out.mono ?_; clear NM3; rintro e w4 ⟨q, U, h, rfl, hR, hUl, hB4⟩; have b4 := b3.out.below (hB4.mono b3.out.lt); obtain ⟨v0, v1, v2, v3, v4, v5, v6⟩ := cfgs.out w4 b4; replace hR := Mr.hid hR; replace hUl := Mr.hid hUl; replace hB4 := Mr.hid hB4; replace b4 := Mr.hid b4))
  go_wp2_with (go_at_call 13; refine (num_any _ _).mono ?_; rintro e wn ⟨rfl, hwn⟩; obtain rfl := hwn.symm)
  go_ret
  have l1 := b1.out.lt
  have l2 := b2.out.lt
  have l3 := b3.out.lt
  have l4 := b4.out.lt
  have s34 := hB4.out.size
  have s23 := hB3.out.size
  have s12 := hB2'.out.size
  have hul := hR.out.mch.2.ul
  refine ⟨_, U, (fun k => w2.heap.size ≤ k ∧ k < w3.heap.size), ⟨q, w2.heap.size + 1, w2.heap.size, ba, gs, cs, c, vca⟩, h, rfl, ?_, ?_, fun k hk => ⟨?_, ?_⟩, ?_, rfl, ?_⟩
  · rw [htb.out]
    exact heap_alloc_new _ _
  · exact hR.out.below ((Below.refl _ _).alloc (Nat.le_refl _) _)
  · rcases hUl.out k hk with h' | h'
    · omega
    · omega
  · exact hul k hk
  · omega
  · exact b4.out.b.alloc (by omega) _
/-- What a law with a table keeps. -/
structure Tb (w W : World) (c : Cf) (tb : Nat) (U K : Nat → Prop) (f : Fx) (h : Wh) (P : Pa) : Prop where
  ra : RA W U K f h P
  s0 : W.heap[w.heap.size]? = some (cfO c)
  bt : W.heap[tb]? = some (tbO c f.ba f.q.b)
  up : ∀ k, U k → w.heap.size < k ∧ k ≠ tb
  lt : w.heap.size < tb
  bel : Below w.heap.size w W
  fc : f.c = c
section
variable {w W W' : World} {c : Cf} {tb : Nat} {U K : Nat → Prop} {f : Fx} {h : Wh} {P : Pa}
theorem Tb.below (t : Tb w W c tb U K f h P) (hB : Below W.heap.size W W') : Tb w W' c tb U K f h P :=
  have g : ∀ k o, W.heap[k]? = some o → W'.heap[k]? = some o := fun k _ hk => (hB.block k (Array.getElem?_eq_some_iff.1 hk).1).trans hk
  ⟨t.ra.below hB, g _ _ t.s0, g _ _ t.bt, t.up, t.lt, t.bel.trans (hB.mono t.bel.size), t.fc⟩
theorem Tb.box (t : Tb w W c tb U K f h P) (o : Obj) : Tb w (W.alloc o) c tb U K f h P := t.below ((Below.refl _ _).alloc (Nat.le_refl _) o)
theorem Tb.cells (t : Tb w W c tb U K f h P) : (W.cell? ⟨w.heap.size, 0, none⟩ = some (.int .i64 c.a0) ∧ W.cell? ⟨w.heap.size, 1, none⟩ = some (.int .i64 c.a1) ∧ W.cell? ⟨w.heap.size, 2, none⟩ = some (.int .i64 c.a2) ∧ W.cell? ⟨w.heap.size, 3, none⟩ = some (.int .i64 c.a3) ∧ W.cell? ⟨w.heap.size, 4, none⟩ = some (.int .i64 c.a4) ∧ W.cell? ⟨w.heap.size, 5, none⟩ = some (.int .i64 c.a5) ∧ W.cell? ⟨w.heap.size, 6, none⟩ = some (.int .i64 c.a6)) ∧ W.cell? ⟨tb, 7, none⟩ = some (.pointer (some ⟨f.ba, 0, none⟩)) ∧ W.cell? ⟨tb, 8, none⟩ = some (.pointer (some ⟨f.q.b, 0, none⟩)) := by
  have h0 := t.s0
  have hr := t.bt
  simp [cfO] at h0
  simp [tbO] at hr
  simp [World.cell?, h0, hr]
theorem Tb.size (t : Tb w W c tb U K f h P) : tb < W.heap.size := (Array.getElem?_eq_some_iff.1 t.bt).1
/-- A move. -/
theorem Tb.out (t : Tb w W c tb U K f h P) {P' : Pa} (hO : OutA W U K f P' W') : ∃ U' h', Tb w W' c tb U' K f h' P' := by
  obtain ⟨U', h', hR, _, hup, hf⟩ := hO
  have hs := t.size
  have hl := t.lt
  refine ⟨U', h', hR, (hf.block _ (by omega) (fun hk => by have := (t.up _ hk).1; omega)).trans t.s0, (hf.block _ hs (fun hk => (t.up _ hk).2 rfl)).trans t.bt, fun k hk => ?_, hl, t.bel.trans (hf.below (fun k hk => Nat.le_of_lt (t.up k hk).1) (by omega)), t.fc⟩
  rcases hup k hk with h1 | h1
  · exact t.up k h1
  · exact ⟨by omega, by omega⟩
end
/-- table's answer, and what a law keeps of it. -/
theorem Tb.open {w W W' : World} {c : Cf} {tb : Nat} {U K : Nat → Prop} {f : Fx} {h : Wh} {P : Pa} (hs : W.heap[w.heap.size]? = some (cfO c)) (hB : Below w.heap.size w W) (h1 : W'.heap[tb]? = some (tbO c f.ba f.q.b)) (h2 : RA W' U K f h P) (h3 : ∀ k, U k → W.heap.size ≤ k ∧ k < tb) (h4 : W.heap.size ≤ tb) (h5 : f.c = c) (hB' : Below W.heap.size W W') : Tb w W' c tb U K f h P := by
  have hl : w.heap.size < W.heap.size := (Array.getElem?_eq_some_iff.1 hs).1
  exact ⟨h2, (hB'.block _ hl).trans hs, h1, fun k hk => by have := h3 k hk; omega, by omega, hB.trans (hB'.mono (by omega)), h5⟩
end Go.Proofs.YtkfpiafgfjpodabGreat.Ar
