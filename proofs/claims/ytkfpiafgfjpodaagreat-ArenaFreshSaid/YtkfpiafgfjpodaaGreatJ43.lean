import Derived.Test.YtkfpiafgfjpodaaGreatJ42
import Derived.Test.YtkfpiafgfjpodaaGreatJ41
import Derived.Test.YtkfpiafgfjpodaaGreatJ39
import Derived.BigQuiet
/-
  table: an arena on a machine, over the document's first words.
-/
namespace Go.Proofs.YtkfpiafgfjpodaaGreat.Ar
open Go.RowKit Go.Shelf Mr Me Ma Wc Wm Wr
structure Bt (w : World) (c : Cf) (W : World) : Prop where
  s : W.heap[w.heap.size]? = some (cfO c)
  b : Below w.heap.size w W
theorem Bt.lt {w W : World} {c : Cf} (h : Bt w c W) : w.heap.size + 1 ≤ W.heap.size := (Array.getElem?_eq_some_iff.1 h.s).1
theorem Bt.below {w W W' : World} {c : Cf} (h : Bt w c W) (hB : Below (w.heap.size + 1) W W') : Bt w c W' :=
  ⟨(hB.block _ (Nat.lt_succ_self _)).trans h.s, h.b.trans (hB.mono (Nat.le_succ _))⟩
theorem Bt.cfg {w W : World} {c : Cf} (h : Bt w c W) : W.cell? ⟨w.heap.size, 0, none⟩ = some (.int .i64 c.a0) ∧ W.cell? ⟨w.heap.size, 1, none⟩ = some (.int .i64 c.a1) ∧ W.cell? ⟨w.heap.size, 2, none⟩ = some (.int .i64 c.a2) ∧ W.cell? ⟨w.heap.size, 3, none⟩ = some (.int .i64 c.a3) ∧ W.cell? ⟨w.heap.size, 4, none⟩ = some (.int .i64 c.a4) ∧ W.cell? ⟨w.heap.size, 5, none⟩ = some (.int .i64 c.a5) ∧ W.cell? ⟨w.heap.size, 6, none⟩ = some (.int .i64 c.a6) := by
  have hb := h.s
  simp [cfO] at hb
  simp [World.cell?, hb]
/-- A table's box. -/
def tbO (c : Cf) (ba b : Nat) : Obj := .cells #[.int .i64 c.a0, .int .i64 c.a1, .int .i64 c.a2, .int .i64 c.a3, .int .i64 c.a4, .int .i64 c.a5, .int .i64 c.a6, .pointer (some ⟨ba, 0, none⟩), .pointer (some ⟨b, 0, none⟩)] 54 (0, 0)
set_option maxRecDepth 100000 in
set_option maxHeartbeats 2000000 in
theorem table_ok (w : World) (c : Cf) (hc : c.ok = true) (n nt N m Kc : Nat) (h5 : c.a5 = n) (h0 : c.a0 = nt) (h4 : c.a4 = Kc) (hN : base c.a1 c.a2 c.a5 c.a6 14 = (N : Int)) (hm10 : base c.a1 c.a2 c.a5 c.a6 10 = (m : Int)) (hn0 : 0 < n) :
    Calls Tryz.prog 13 #[c.val] w fun e w' => ∃ tb U K f h, e = .returned (.pointer (some ⟨tb, 0, none⟩)) ∧ w'.heap[tb]? = some (tbO c f.ba f.q.b) ∧ RA w' U K f h (Pa.first c n nt N m Kc) ∧ (∀ k, U k → w.heap.size ≤ k ∧ k < tb) ∧ w.heap.size ≤ tb ∧ f.c = c ∧ Below w.heap.size w w' := by
  have hc' : cfgB c.a0 c.a1 c.a2 c.a3 c.a4 c.a5 c.a6 = true := hc
  have NW := fun w => new_ok c hc n nt h5 h0 w
  have FS := fun w => refFirst_all c.a0 c.a1 c.a2 c.a3 c.a4 c.a5 c.a6 0 N w (ok_of hc') hN (by omega) (by omega)
  obtain ⟨W0, hW0⟩ : ∃ W0, w.alloc (cfO c) = W0 := ⟨_, rfl⟩
  have b0 : Bt w c W0 := by
    rw [← hW0]
    exact ⟨heap_alloc_new w _, (Below.refl _ _).alloc (Nat.le_refl _) _⟩
  have s0 : W0.heap.size = w.heap.size + 1 := by rw [← hW0]; simp
  obtain ⟨y0, y1, y2, y3, y4, y5, y6⟩ := b0.cfg
  have cfgs := fun (W1 : World) (h1 : Bt w c W1) => h1.cfg
  rw [h0] at y0 cfgs
  have hcv : c.val = .agg #[.int .i64 (nt : Int), .int .i64 c.a1, .int .i64 c.a2, .int .i64 c.a3, .int .i64 c.a4, .int .i64 c.a5, .int .i64 c.a6] := by unfold Cf.val; rw [h0]
  rw [hcv] at NW ⊢
  rw [h0] at FS
  have hW0' : w.alloc (.cells #[.int .i64 (nt : Int), .int .i64 c.a1, .int .i64 c.a2, .int .i64 c.a3, .int .i64 c.a4, .int .i64 c.a5, .int .i64 c.a6] 23) = W0 := by rw [← hW0]; unfold cfO; rw [h0]
  have htb : ∀ ba b, tbO c ba b = .cells #[.int .i64 (nt : Int), .int .i64 c.a1, .int .i64 c.a2, .int .i64 c.a3, .int .i64 c.a4, .int .i64 c.a5, .int .i64 c.a6, .pointer (some ⟨ba, 0, none⟩), .pointer (some ⟨b, 0, none⟩)] 54 (0, 0) := fun ba b => by unfold tbO; rw [h0]
  replace NW := Mr.hid NW
  replace FS := Mr.hid FS
  replace h5 := Mr.hid h5
  replace h0 := Mr.hid h0
  replace h4 := Mr.hid h4
  replace hN := Mr.hid hN
  replace hm10 := Mr.hid hm10
  replace b0 := Mr.hid b0
  replace cfgs := Mr.hid cfgs
  replace htb := Mr.hid htb
  clear hc' hcv hW0
  replace hc := Mr.hid hc
  go_enter Tryz.func13, Tryz.ntmps13
  go_wp2_with (first | (go_at_call 12; refine (num_any _ _).mono ?_; rintro e wn ⟨rfl, hwn⟩; obtain rfl := hwn.symm) | (go_at_call 23; refine (NW.out _).mono ?_; clear NW; rintro e w1 ⟨ba, gs, cs, vca, vsl, rfl, hA, hB1⟩; rw [s0] at hA hB1; have b1 := b0.out.below hB1; clear y0 y1 y2 y3 y4 y5 y6; obtain ⟨y0, y1, y2, y3, y4, y5, y6⟩ := cfgs.out w1 b1; replace hA := Mr.hid hA; replace hB1 := Mr.hid hB1; replace b1 := Mr.hid b1))
  have hTl : ∀ k, (w.heap.size + 1 ≤ k ∧ k < w1.heap.size) → k < w1.heap.size := fun k hk => hk.2
  have hsl : 0 < (Ao.new n nt).sl.length := by simp [Ao.new]; exact hn0
  have KTf := fun (w2 : World) (hB2 : Below w1.heap.size w1 w2) => kit_any w2 (hA.out.kept (fun k hk => hB2.block k (hTl k hk)) (fun _ h => h)) (fun k hk => Nat.lt_of_lt_of_le (hTl k hk) hB2.size) hsl
  have NMf := fun (w2 w3 : World) (b : Nat) (hrow : Row w2 b N (fstF c.a1 c.a2 c.a5 c.a6 0)) (hB2 : Below w1.heap.size w1 w2) (hK : Ktr w3 (fun k => w2.heap.size ≤ k ∧ k < w3.heap.size) (w2.heap.size + 1) w2.heap.size ba) (hB3 : Below w2.heap.size w2 w3) => newM_first c hc.out n nt N m Kc h5.out h0.out h4.out hN.out hm10.out hA.out hTl hrow hB2 hK hB3
  replace KTf := Mr.hid KTf
  replace NMf := Mr.hid NMf
  replace hTl := Mr.hid hTl
  clear hsl
  go_region_held3 (fun w' => w'.cell? ⟨w.heap.size, 0, none⟩ = some (.int .i64 (nt : Int)) ∧ w'.cell? ⟨w.heap.size, 1, none⟩ = some (.int .i64 c.a1) ∧ w'.cell? ⟨w.heap.size, 2, none⟩ = some (.int .i64 c.a2) ∧ w'.cell? ⟨w.heap.size, 3, none⟩ = some (.int .i64 c.a3) ∧ w'.cell? ⟨w.heap.size, 4, none⟩ = some (.int .i64 c.a4) ∧ w'.cell? ⟨w.heap.size, 5, none⟩ = some (.int .i64 c.a5) ∧ w'.cell? ⟨w.heap.size, 6, none⟩ = some (.int .i64 c.a6)) (simp [*])
    (first | (go_at_call 27; refine (FS.out _).mono ?_; clear FS; rintro e w2 ⟨b, rfl, hb2, hrow, hB2⟩; have hB2' : Below w1.heap.size w1 w2 := ((Below.refl _ w1).drew).trans hB2; have b2 := b1.out.below (hB2'.mono b1.out.lt); obtain ⟨x0, x1, x2, x3, x4, x5, x6⟩ := cfgs.out w2 b2; have KT := KTf.out w2 hB2'; clear KTf; replace KT := Mr.hid KT; replace hrow := Mr.hid hrow; replace hB2' := Mr.hid hB2'; replace b2 := Mr.hid b2; replace hb2 := Mr.hid hb2; clear hB2) | (go_at_call 26; refine KT.out.mono ?_; clear KT; rintro e w3 ⟨rfl, hK, hB3⟩; have b3 := b2.out.below (hB3.mono b2.out.lt); obtain ⟨z0, z1, z2, z3, z4, z5, z6⟩ := cfgs.out w3 b3; have NM3 := NMf.out w2 w3 b hrow.out hB2'.out hK hB3; clear NMf; replace NM3 := Mr.hid NM3; replace hK := Mr.hid hK; replace hB3 := Mr.hid hB3; replace b3 := Mr.hid b3) | (go_at_call 25; refine NM3.out.mono ?_; clear NM3; rintro e w4 ⟨q, U, h, rfl, hR, hUl, hB4⟩; have b4 := b3.out.below (hB4.mono b3.out.lt); obtain ⟨v0, v1, v2, v3, v4, v5, v6⟩ := cfgs.out w4 b4; replace hR := Mr.hid hR; replace hUl := Mr.hid hUl; replace hB4 := Mr.hid hB4; replace b4 := Mr.hid b4))
  go_wp2_with (go_at_call 12; refine (num_any _ _).mono ?_; rintro e wn ⟨rfl, hwn⟩; obtain rfl := hwn.symm)
  go_ret
  have l1 := b1.out.lt
  have l2 := b2.out.lt
  have l3 := b3.out.lt
  have l4 := b4.out.lt
  have s34 := hB4.out.size
  have s23 := hB3.out.size
  have s12 := hB2'.out.size
  have hul := hR.out.mch.2.ul
  refine ⟨_, U, (fun k => w2.heap.size ≤ k ∧ k < w3.heap.size), ⟨q, w2.heap.size + 1, w2.heap.size, ba, gs, cs, c, vca⟩, h, rfl, ?_, ?_, fun k hk => ⟨?_, ?_⟩, ?_, rfl, ?_⟩
  · rw [htb.out]
    exact heap_alloc_new _ _
  · exact hR.out.below ((Below.refl _ _).alloc (Nat.le_refl _) _)
  · rcases hUl.out k hk with h' | h'
    · omega
    · omega
  · exact hul k hk
  · omega
  · exact b4.out.b.alloc (by omega) _
/-- What a law with a table keeps. -/
structure Tb (w W : World) (c : Cf) (tb : Nat) (U K : Nat → Prop) (f : Fx) (h : Wh) (P : Pa) : Prop where
  ra : RA W U K f h P
  s0 : W.heap[w.heap.size]? = some (cfO c)
  bt : W.heap[tb]? = some (tbO c f.ba f.q.b)
  up : ∀ k, U k → w.heap.size < k ∧ k ≠ tb
  lt : w.heap.size < tb
  bel : Below w.heap.size w W
  fc : f.c = c
section
variable {w W W' : World} {c : Cf} {tb : Nat} {U K : Nat → Prop} {f : Fx} {h : Wh} {P : Pa}
theorem Tb.below (t : Tb w W c tb U K f h P) (hB : Below W.heap.size W W') : Tb w W' c tb U K f h P :=
  have g : ∀ k o, W.heap[k]? = some o → W'.heap[k]? = some o := fun k _ hk => (hB.block k (Array.getElem?_eq_some_iff.1 hk).1).trans hk
  ⟨t.ra.below hB, g _ _ t.s0, g _ _ t.bt, t.up, t.lt, t.bel.trans (hB.mono t.bel.size), t.fc⟩
theorem Tb.box (t : Tb w W c tb U K f h P) (o : Obj) : Tb w (W.alloc o) c tb U K f h P := t.below ((Below.refl _ _).alloc (Nat.le_refl _) o)
theorem Tb.cells (t : Tb w W c tb U K f h P) : (W.cell? ⟨w.heap.size, 0, none⟩ = some (.int .i64 c.a0) ∧ W.cell? ⟨w.heap.size, 1, none⟩ = some (.int .i64 c.a1) ∧ W.cell? ⟨w.heap.size, 2, none⟩ = some (.int .i64 c.a2) ∧ W.cell? ⟨w.heap.size, 3, none⟩ = some (.int .i64 c.a3) ∧ W.cell? ⟨w.heap.size, 4, none⟩ = some (.int .i64 c.a4) ∧ W.cell? ⟨w.heap.size, 5, none⟩ = some (.int .i64 c.a5) ∧ W.cell? ⟨w.heap.size, 6, none⟩ = some (.int .i64 c.a6)) ∧ W.cell? ⟨tb, 7, none⟩ = some (.pointer (some ⟨f.ba, 0, none⟩)) ∧ W.cell? ⟨tb, 8, none⟩ = some (.pointer (some ⟨f.q.b, 0, none⟩)) := by
  have h0 := t.s0
  have hr := t.bt
  simp [cfO] at h0
  simp [tbO] at hr
  simp [World.cell?, h0, hr]
theorem Tb.size (t : Tb w W c tb U K f h P) : tb < W.heap.size := (Array.getElem?_eq_some_iff.1 t.bt).1
/-- A move. -/
theorem Tb.out (t : Tb w W c tb U K f h P) {P' : Pa} (hO : OutA W U K f P' W') : ∃ U' h', Tb w W' c tb U' K f h' P' := by
  obtain ⟨U', h', hR, _, hup, hf⟩ := hO
  have hs := t.size
  have hl := t.lt
  refine ⟨U', h', hR, (hf.block _ (by omega) (fun hk => by have := (t.up _ hk).1; omega)).trans t.s0, (hf.block _ hs (fun hk => (t.up _ hk).2 rfl)).trans t.bt, fun k hk => ?_, hl, t.bel.trans (hf.below (fun k hk => Nat.le_of_lt (t.up k hk).1) (by omega)), t.fc⟩
  rcases hup k hk with h1 | h1
  · exact t.up k h1
  · exact ⟨by omega, by omega⟩
end
/-- table's answer, and what a law keeps of it. -/
theorem Tb.open {w W W' : World} {c : Cf} {tb : Nat} {U K : Nat → Prop} {f : Fx} {h : Wh} {P : Pa} (hs : W.heap[w.heap.size]? = some (cfO c)) (hB : Below w.heap.size w W) (h1 : W'.heap[tb]? = some (tbO c f.ba f.q.b)) (h2 : RA W' U K f h P) (h3 : ∀ k, U k → W.heap.size ≤ k ∧ k < tb) (h4 : W.heap.size ≤ tb) (h5 : f.c = c) (hB' : Below W.heap.size W W') : Tb w W' c tb U K f h P := by
  have hl : w.heap.size < W.heap.size := (Array.getElem?_eq_some_iff.1 hs).1
  exact ⟨h2, (hB'.block _ hl).trans hs, h1, fun k hk => by have := h3 k hk; omega, by omega, hB.trans (hB'.mono (by omega)), h5⟩
end Go.Proofs.YtkfpiafgfjpodaaGreat.Ar
/-
  SameRun of two runs that are alike; sameInts of two rows that are alike.
-/
namespace Go.Proofs.YtkfpiafgfjpodaaGreat.Ar
open Go.RowKit Go.Shelf Mr Me Ma Wc Wm Wr
theorem sh_cells {W : World} {S : Nat → Prop} {g n cap : Nat} {l : List Sh} (h : Has W S 66 5 (.slice (some ⟨g, 0, none⟩) n cap) n (shc l)) {j : Nat} {a : Sh} (ha : l[j]? = some a) :
    W.cell? ⟨g, j * 5, none⟩ = some (.int .i64 a.mv) ∧ W.cell? ⟨g, j * 5 + 1, none⟩ = some (.int .i64 a.th) ∧ W.cell? ⟨g, j * 5 + 2, none⟩ = some (.int .i64 a.slot) ∧ W.cell? ⟨g, j * 5 + 3, none⟩ = some (.int .i64 a.fr) ∧ W.cell? ⟨g, j * 5 + 4, none⟩ = some (.int .i64 a.to) := by
  have hce : ∀ t (_ : t < 5) u, a.cells[t]? = some u → W.cell? ⟨g, j * 5 + t, none⟩ = some u := fun t ht u hu => h.cells (g := g) rfl (j * 5 + t) u (by rw [shc, flat_get (f := Sh.cells) (m := 5) (fun _ => rfl) l j t a ha ht]; exact hu)
  exact ⟨hce 0 (by decide) _ rfl, hce 1 (by decide) _ rfl, hce 2 (by decide) _ rfl, hce 3 (by decide) _ rfl, hce 4 (by decide) _ rfl⟩
set_option maxRecDepth 100000 in
set_option maxHeartbeats 4000000 in
theorem same_eq {W : World} {S1 S2 : Nat → Prop} {Q : Pa} {v1 v2 v3 v4 u1 u2 u3 u4 : Value}
    (a1 : Has W S1 42 9 v1 Q.cls.length (clc Q.cls)) (a2 : Has W S1 48 7 v2 Q.lg.length (lgc Q.lg)) (a3 : Has W S1 66 5 v3 Q.shs.length (shc Q.shs)) (a4 : Has W S1 44 1 v4 Q.ws.length (wrd Q.ws))
    (b1 : Has W S2 42 9 u1 Q.cls.length (clc Q.cls)) (b2 : Has W S2 48 7 u2 Q.lg.length (lgc Q.lg)) (b3 : Has W S2 66 5 u3 Q.shs.length (shc Q.shs)) (b4 : Has W S2 44 1 u4 Q.ws.length (wrd Q.ws)) (n1 : Q.cls.length ≤ 100000) (n2 : Q.lg.length ≤ 100000) (n3 : Q.shs.length ≤ 100000) (n4 : Q.ws.length ≤ 100000) :
    Calls Tryz.prog 19 #[runV v1 v2 v3 v4, runV u1 u2 u3 u4] W fun e w' => e = .returned (.bool true) ∧ Below W.heap.size W w' := by
  obtain ⟨p1, q1, rfl, _⟩ := a1.form
  obtain ⟨p2, q2, rfl, _⟩ := a2.form
  obtain ⟨p3, q3, rfl, _⟩ := a3.form
  obtain ⟨p4, q4, rfl, _⟩ := a4.form
  obtain ⟨r1, s1, rfl, _⟩ := b1.form
  obtain ⟨r2, s2, rfl, _⟩ := b2.form
  obtain ⟨r3, s3, rfl, _⟩ := b3.form
  obtain ⟨r4, s4, rfl, _⟩ := b4.form
  unfold runV
  obtain ⟨W2, hW2⟩ : ∃ W2, (W.alloc (.cells #[.slice p1 Q.cls.length q1, .slice p2 Q.lg.length q2, .slice p3 Q.shs.length q3, .slice p4 Q.ws.length q4] 32)).alloc (.cells #[.slice r1 Q.cls.length s1, .slice r2 Q.lg.length s2, .slice r3 Q.shs.length s3, .slice r4 Q.ws.length s4] 32) = W2 := ⟨_, rfl⟩
  have H0 : Below W.heap.size W W2 := by rw [← hW2]; exact ((Below.refl _ _).alloc (Nat.le_refl _) _).alloc (by simp) _
  have x0 : W2.heap[W.heap.size]? = some (.cells #[.slice p1 Q.cls.length q1, .slice p2 Q.lg.length q2, .slice p3 Q.shs.length q3, .slice p4 Q.ws.length q4] 32 (0, 0)) := by rw [← hW2]; exact (Below.heap_alloc _ _ _ (by simp)).trans (heap_alloc_new W _)
  have x1 : W2.heap[W.heap.size + 1]? = some (.cells #[.slice r1 Q.cls.length s1, .slice r2 Q.lg.length s2, .slice r3 Q.shs.length s3, .slice r4 Q.ws.length s4] 32 (0, 0)) := by
    have := heap_alloc_new (W.alloc (.cells #[.slice p1 Q.cls.length q1, .slice p2 Q.lg.length q2, .slice p3 Q.shs.length q3, .slice p4 Q.ws.length q4] 32)) (.cells #[.slice r1 Q.cls.length s1, .slice r2 Q.lg.length s2, .slice r3 Q.shs.length s3, .slice r4 Q.ws.length s4] 32)
    rw [World.size_alloc] at this
    rw [← hW2]
    exact this
  have s20 : W2.heap.size = W.heap.size + 1 + 1 := by rw [← hW2]; simp
  have hs2 : W.heap.size ≤ W2.heap.size := by omega
  have KB := fun (wr : World) (hB : Below W2.heap.size W2 wr) => (show wr.cell? ⟨W.heap.size, 0, none⟩ = some (.slice p1 Q.cls.length q1) ∧ wr.cell? ⟨W.heap.size, 1, none⟩ = some (.slice p2 Q.lg.length q2) ∧ wr.cell? ⟨W.heap.size, 2, none⟩ = some (.slice p3 Q.shs.length q3) ∧ wr.cell? ⟨W.heap.size, 3, none⟩ = some (.slice p4 Q.ws.length q4) ∧ wr.cell? ⟨W.heap.size + 1, 0, none⟩ = some (.slice r1 Q.cls.length s1) ∧ wr.cell? ⟨W.heap.size + 1, 1, none⟩ = some (.slice r2 Q.lg.length s2) ∧ wr.cell? ⟨W.heap.size + 1, 2, none⟩ = some (.slice r3 Q.shs.length s3) ∧ wr.cell? ⟨W.heap.size + 1, 3, none⟩ = some (.slice r4 Q.ws.length s4) from by
    have y0 := (hB.block W.heap.size (by omega)).trans x0
    have y1 := (hB.block (W.heap.size + 1) (by omega)).trans x1
    simp [World.cell?, y0, y1])
  replace a1 := a1.below H0
  replace a2 := a2.below H0
  replace a3 := a3.below H0
  replace a4 := a4.below H0
  replace b1 := b1.below H0
  replace b2 := b2.below H0
  replace b3 := b3.below H0
  replace b4 := b4.below H0
  obtain ⟨c0, c1, c2, c3, d0, d1, d2, d3⟩ := KB W2 (Below.refl _ _)
  clear x0 x1
  replace H0 := Mr.hid H0
  replace hs2 := Mr.hid hs2
  replace KB := Mr.hid KB
  replace a1 := Mr.hid a1
  replace a2 := Mr.hid a2
  replace a3 := Mr.hid a3
  replace a4 := Mr.hid a4
  replace b1 := Mr.hid b1
  replace b2 := Mr.hid b2
  replace b3 := Mr.hid b3
  replace b4 := Mr.hid b4
  go_enter Tryz.func19, Tryz.ntmps19
  go_wp2
  clear c0 c1 c2 c3 d0 d1 d2 d3 hW2
  go_loopg [5] Q.cls.length (fun k s wy => ∃ j : Nat, s = .int .i64 (j : Int) ∧ j + k = Q.cls.length ∧ Below W2.heap.size W2 wy)
  case atStart => exact ⟨0, rfl, by omega, Below.refl _ _⟩
  case round =>
    obtain ⟨j, rfl, hj, hB⟩ := hrel
    obtain ⟨c0, c1, c2, c3, d0, d1, d2, d3⟩ := KB.out wr hB
    have l1 := hB.size
    by_cases hjl : j < Q.cls.length
    · obtain ⟨x, hx⟩ : ∃ x, Q.cls[j]? = some x := ⟨_, List.getElem?_eq_getElem hjl⟩
      have ha' := a1.out
      have hb' := b1.out
      obtain ⟨ga, qa, hga, _, hga2, hga3, hga4⟩ := ha'.there (by omega)
      obtain ⟨gb, qb, hgb, _, hgb2, hgb3, hgb4⟩ := hb'.there (by omega)
      cases hga
      cases hgb
      unfold maxLen at hga4 hgb4
      have fa := cl_cells ha' hx
      have fb := cl_cells hb' hx
      have f0 := (hB.cell (p := ⟨ga, j * 9, none⟩) hga2).trans fa.1
      have g0 := (hB.cell (p := ⟨gb, j * 9, none⟩) hgb2).trans fb.1
      have f1 := (hB.cell (p := ⟨ga, j * 9 + 1, none⟩) hga2).trans fa.2.1
      have g1 := (hB.cell (p := ⟨gb, j * 9 + 1, none⟩) hgb2).trans fb.2.1
      have f2 := (hB.cell (p := ⟨ga, j * 9 + 2, none⟩) hga2).trans fa.2.2.1
      have g2 := (hB.cell (p := ⟨gb, j * 9 + 2, none⟩) hgb2).trans fb.2.2.1
      have f3 := (hB.cell (p := ⟨ga, j * 9 + 3, none⟩) hga2).trans fa.2.2.2.1
      have g3 := (hB.cell (p := ⟨gb, j * 9 + 3, none⟩) hgb2).trans fb.2.2.2.1
      have f4 := (hB.cell (p := ⟨ga, j * 9 + 4, none⟩) hga2).trans fa.2.2.2.2.1
      have g4 := (hB.cell (p := ⟨gb, j * 9 + 4, none⟩) hgb2).trans fb.2.2.2.2.1
      have f5 := (hB.cell (p := ⟨ga, j * 9 + 5, none⟩) hga2).trans fa.2.2.2.2.2.1
      have g5 := (hB.cell (p := ⟨gb, j * 9 + 5, none⟩) hgb2).trans fb.2.2.2.2.2.1
      have f6 := (hB.cell (p := ⟨ga, j * 9 + 6, none⟩) hga2).trans fa.2.2.2.2.2.2.1
      have g6 := (hB.cell (p := ⟨gb, j * 9 + 6, none⟩) hgb2).trans fb.2.2.2.2.2.2.1
      have f7 := (hB.cell (p := ⟨ga, j * 9 + 7, none⟩) hga2).trans fa.2.2.2.2.2.2.2.1
      have g7 := (hB.cell (p := ⟨gb, j * 9 + 7, none⟩) hgb2).trans fb.2.2.2.2.2.2.2.1
      have f8 := (hB.cell (p := ⟨ga, j * 9 + 8, none⟩) hga2).trans fa.2.2.2.2.2.2.2.2
      have g8 := (hB.cell (p := ⟨gb, j * 9 + 8, none⟩) hgb2).trans fb.2.2.2.2.2.2.2.2
      clear fa fb
      have hji : (j : Int) < (Q.cls.length : Int) := by omega
      clear ha' hb'
      replace hx := Mr.hid hx
      have fin := fun nq => hB.trans ((Bx.draws W2.heap.size wr nq))
      replace fin := Mr.hid fin
      replace hB := Mr.hid hB
      go_wp2
      go_quiet (fail)
      go_wp2
      go_roundg (gk - 1)
      case measure => omega
      case rel => exact ⟨j + 1, by simp, by omega, fin.out _⟩
    · replace hB := Mr.hid hB
      go_wp2
      go_loopg [6] Q.lg.length (fun k s wy => ∃ j : Nat, s = .int .i64 (j : Int) ∧ j + k = Q.lg.length ∧ Below W2.heap.size W2 wy)
      case atStart => exact ⟨0, rfl, by omega, hB.out⟩
      case round =>
        obtain ⟨j, rfl, hj, hB⟩ := hrel
        obtain ⟨c0, c1, c2, c3, d0, d1, d2, d3⟩ := KB.out wr hB
        have l1 := hB.size
        by_cases hjl : j < Q.lg.length
        · obtain ⟨x, hx⟩ : ∃ x, Q.lg[j]? = some x := ⟨_, List.getElem?_eq_getElem hjl⟩
          have ha' := a2.out
          have hb' := b2.out
          obtain ⟨ga, qa, hga, _, hga2, hga3, hga4⟩ := ha'.there (by omega)
          obtain ⟨gb, qb, hgb, _, hgb2, hgb3, hgb4⟩ := hb'.there (by omega)
          cases hga
          cases hgb
          unfold maxLen at hga4 hgb4
          have fa := ac_cells ha' hx
          have fb := ac_cells hb' hx
          have f0 := (hB.cell (p := ⟨ga, j * 7, none⟩) hga2).trans fa.1
          have g0 := (hB.cell (p := ⟨gb, j * 7, none⟩) hgb2).trans fb.1
          have f1 := (hB.cell (p := ⟨ga, j * 7 + 1, none⟩) hga2).trans fa.2.1
          have g1 := (hB.cell (p := ⟨gb, j * 7 + 1, none⟩) hgb2).trans fb.2.1
          have f2 := (hB.cell (p := ⟨ga, j * 7 + 2, none⟩) hga2).trans fa.2.2.1
          have g2 := (hB.cell (p := ⟨gb, j * 7 + 2, none⟩) hgb2).trans fb.2.2.1
          have f3 := (hB.cell (p := ⟨ga, j * 7 + 3, none⟩) hga2).trans fa.2.2.2.1
          have g3 := (hB.cell (p := ⟨gb, j * 7 + 3, none⟩) hgb2).trans fb.2.2.2.1
          have f4 := (hB.cell (p := ⟨ga, j * 7 + 4, none⟩) hga2).trans fa.2.2.2.2.1
          have g4 := (hB.cell (p := ⟨gb, j * 7 + 4, none⟩) hgb2).trans fb.2.2.2.2.1
          have f5 := (hB.cell (p := ⟨ga, j * 7 + 5, none⟩) hga2).trans fa.2.2.2.2.2.1
          have g5 := (hB.cell (p := ⟨gb, j * 7 + 5, none⟩) hgb2).trans fb.2.2.2.2.2.1
          have f6 := (hB.cell (p := ⟨ga, j * 7 + 6, none⟩) hga2).trans fa.2.2.2.2.2.2
          have g6 := (hB.cell (p := ⟨gb, j * 7 + 6, none⟩) hgb2).trans fb.2.2.2.2.2.2
          clear fa fb
          have hji : (j : Int) < (Q.lg.length : Int) := by omega
          clear ha' hb'
          replace hx := Mr.hid hx
          have fin := fun nq => hB.trans ((Bx.draws W2.heap.size wr nq))
          replace fin := Mr.hid fin
          replace hB := Mr.hid hB
          go_wp2
          go_quiet (fail)
          go_wp2
          go_roundg (gk - 1)
          case measure => omega
          case rel => exact ⟨j + 1, by simp, by omega, fin.out _⟩
        · replace hB := Mr.hid hB
          go_wp2
          go_loopg [7] Q.shs.length (fun k s wy => ∃ j : Nat, s = .int .i64 (j : Int) ∧ j + k = Q.shs.length ∧ Below W2.heap.size W2 wy)
          case atStart => exact ⟨0, rfl, by omega, hB.out⟩
          case round =>
            obtain ⟨j, rfl, hj, hB⟩ := hrel
            obtain ⟨c0, c1, c2, c3, d0, d1, d2, d3⟩ := KB.out wr hB
            have l1 := hB.size
            by_cases hjl : j < Q.shs.length
            · obtain ⟨x, hx⟩ : ∃ x, Q.shs[j]? = some x := ⟨_, List.getElem?_eq_getElem hjl⟩
              have ha' := a3.out
              have hb' := b3.out
              obtain ⟨ga, qa, hga, _, hga2, hga3, hga4⟩ := ha'.there (by omega)
              obtain ⟨gb, qb, hgb, _, hgb2, hgb3, hgb4⟩ := hb'.there (by omega)
              cases hga
              cases hgb
              unfold maxLen at hga4 hgb4
              have fa := sh_cells ha' hx
              have fb := sh_cells hb' hx
              have f0 := (hB.cell (p := ⟨ga, j * 5, none⟩) hga2).trans fa.1
              have g0 := (hB.cell (p := ⟨gb, j * 5, none⟩) hgb2).trans fb.1
              have f1 := (hB.cell (p := ⟨ga, j * 5 + 1, none⟩) hga2).trans fa.2.1
              have g1 := (hB.cell (p := ⟨gb, j * 5 + 1, none⟩) hgb2).trans fb.2.1
              have f2 := (hB.cell (p := ⟨ga, j * 5 + 2, none⟩) hga2).trans fa.2.2.1
              have g2 := (hB.cell (p := ⟨gb, j * 5 + 2, none⟩) hgb2).trans fb.2.2.1
              have f3 := (hB.cell (p := ⟨ga, j * 5 + 3, none⟩) hga2).trans fa.2.2.2.1
              have g3 := (hB.cell (p := ⟨gb, j * 5 + 3, none⟩) hgb2).trans fb.2.2.2.1
              have f4 := (hB.cell (p := ⟨ga, j * 5 + 4, none⟩) hga2).trans fa.2.2.2.2
              have g4 := (hB.cell (p := ⟨gb, j * 5 + 4, none⟩) hgb2).trans fb.2.2.2.2
              clear fa fb
              have hji : (j : Int) < (Q.shs.length : Int) := by omega
              clear ha' hb'
              replace hx := Mr.hid hx
              have fin := fun nq => hB.trans ((Bx.draws W2.heap.size wr nq))
              replace fin := Mr.hid fin
              replace hB := Mr.hid hB
              go_wp2
              go_quiet (fail)
              go_wp2
              go_roundg (gk - 1)
              case measure => omega
              case rel => exact ⟨j + 1, by simp, by omega, fin.out _⟩
            · replace hB := Mr.hid hB
              go_wp2
              go_loopg [8] Q.ws.length (fun k s wy => ∃ j : Nat, s = .int .i64 (j : Int) ∧ j + k = Q.ws.length ∧ Below W2.heap.size W2 wy)
              case atStart => exact ⟨0, rfl, by omega, hB.out⟩
              case round =>
                obtain ⟨j, rfl, hj, hB⟩ := hrel
                obtain ⟨c0, c1, c2, c3, d0, d1, d2, d3⟩ := KB.out wr hB
                have l1 := hB.size
                by_cases hjl : j < Q.ws.length
                · obtain ⟨x, hx⟩ : ∃ x, Q.ws[j]? = some x := ⟨_, List.getElem?_eq_getElem hjl⟩
                  have ha' := a4.out
                  have hb' := b4.out
                  obtain ⟨ga, qa, hga, _, hga2, hga3, hga4⟩ := ha'.there (by omega)
                  obtain ⟨gb, qb, hgb, _, hgb2, hgb3, hgb4⟩ := hb'.there (by omega)
                  cases hga
                  cases hgb
                  unfold maxLen at hga4 hgb4
                  have f0 := (hB.cell (p := ⟨ga, j, none⟩) hga2).trans (a4.out.cells (g := ga) rfl j (.int .u64 x) (by simp [wrd, hx]))
                  have g0 := (hB.cell (p := ⟨gb, j, none⟩) hgb2).trans (b4.out.cells (g := gb) rfl j (.int .u64 x) (by simp [wrd, hx]))
                  have hji : (j : Int) < (Q.ws.length : Int) := by omega
                  clear ha' hb'
                  replace hx := Mr.hid hx
                  have fin := fun nq => hB.trans ((Bx.draws W2.heap.size wr nq))
                  replace fin := Mr.hid fin
                  replace hB := Mr.hid hB
                  go_wp2
                  go_quiet (fail)
                  go_wp2
                  go_roundg (gk - 1)
                  case measure => omega
                  case rel => exact ⟨j + 1, by simp, by omega, fin.out _⟩
                · replace hB := Mr.hid hB
                  go_wp2
                  go_ret
                  exact ⟨rfl, (H0.out).trans (hB.out.mono hs2.out)⟩
end Go.Proofs.YtkfpiafgfjpodaaGreat.Ar
/-
  ROWS of moves; two rows of numbers that are alike.
-/
namespace Go.Proofs.YtkfpiafgfjpodaaGreat.Ma
open Go.RowKit Go.Shelf Mr Me
def Mv.cells (m : Mv) : List Value := [.int .i64 m.th, .int .i64 m.op, .int .i64 m.arg, .int .i64 m.data]
def mvc (ms : List Mv) : List Value := ms.flatMap Mv.cells
theorem mv_len (m : Mv) : m.cells.length = 4 := rfl
theorem mvc_length (ms : List Mv) : (mvc ms).length = ms.length * 4 := flat_length mv_len ms
theorem mvc_append (l k : List Mv) : mvc (l ++ k) = mvc l ++ mvc k := by simp [mvc]
theorem mvc_one (ms : List Mv) : ∀ u ∈ mvc ms, u.oneCell' = true := by
  intro u hu
  simp only [mvc, List.mem_flatMap] at hu
  obtain ⟨m, _, hm⟩ := hu
  simp only [Mv.cells, List.mem_cons, List.not_mem_nil, or_false] at hm
  rcases hm with rfl | rfl | rfl | rfl <;> rfl
theorem info_move : (Tryz.prog.info? 57).map (fun i => (i.zero, i.size, i.bytes)) = some (some (.agg #[.int .i64 0, .int .i64 0, .int .i64 0, .int .i64 0]), 4, 32) := by kernel_rfl
theorem MvAt.news {W : World} {ad : Addr} {n : Nat} {ms : List Mv} (h : MvAt W (some ad) n ms) : ∀ j u, (mvc ms)[j]? = some u → W.cell? (ad.add j) = some u := by
  intro j u hu
  have hj : j < ms.length * 4 := by have := (List.getElem?_eq_some_iff.1 hu).1; rw [mvc_length] at this; exact this
  rcases h.2 with h0 | ⟨b, off, h1, hb, hc⟩
  · rw [h0] at hj; simp at hj
  · cases h1
    have hadd : ∀ j, (⟨b, off, none⟩ : Addr).add j = ⟨b, off + j, none⟩ := fun j => by unfold Addr.add; split <;> simp_all
    obtain ⟨q, r, rfl, hr⟩ : ∃ q r, j = q * 4 + r ∧ r < 4 := ⟨j / 4, j % 4, by omega, by omega⟩
    have hq : q < ms.length := by omega
    rw [mvc, flat_get mv_len ms q r _ (List.getElem?_eq_getElem hq) hr] at hu
    obtain ⟨c0, c1, c2, c3⟩ := hc q hq
    have e : ms[q]?.getD noMv = ms[q] := by simp [hq]
    rw [e] at c0 c1 c2 c3
    rw [hadd]
    rcases r with _ | _ | _ | _ | r
    · simp only [Mv.cells, List.getElem?_cons_zero, Option.some.injEq] at hu; rw [← hu]; exact c0
    · simp only [Mv.cells, List.getElem?_cons_succ, List.getElem?_cons_zero, Option.some.injEq] at hu; rw [← hu]; exact c1
    · simp only [Mv.cells, List.getElem?_cons_succ, List.getElem?_cons_zero, Option.some.injEq] at hu; rw [← hu]; exact c2
    · simp only [Mv.cells, List.getElem?_cons_succ, List.getElem?_cons_zero, Option.some.injEq] at hu; rw [← hu]; exact c3
    · omega
theorem has_mvat {W : World} {S : Nat → Prop} {a : Option Addr} {n cap : Nat} {ms : List Mv} (h : Has W S 57 4 (.slice a n cap) n (mvc ms)) : MvAt W a n ms := by
  have hl := h.1
  rw [mvc_length] at hl
  have hn : n = ms.length := by omega
  refine ⟨hn, ?_⟩
  by_cases h0 : ms.length = 0
  · exact .inl (List.eq_nil_of_length_eq_zero h0)
  · obtain ⟨g, cap', hg, _, hgl, _⟩ := h.there (by omega)
    cases hg
    refine .inr ⟨g, 0, rfl, hgl, fun j hj => ?_⟩
    have e : ms[j]?.getD noMv = ms[j] := by simp [hj]
    have hce : ∀ t (_ : t < 4) u, (ms[j]).cells[t]? = some u → W.cell? ⟨g, j * 4 + t, none⟩ = some u := fun t ht u hu => h.cells (g := g) rfl (j * 4 + t) u (by rw [mvc, flat_get mv_len ms j t _ (List.getElem?_eq_getElem hj) ht]; exact hu)
    rw [e, Nat.zero_add]
    exact ⟨hce 0 (by decide) _ rfl, hce 1 (by decide) _ rfl, hce 2 (by decide) _ rfl, hce 3 (by decide) _ rfl⟩
theorem run_append_emvs (w : World) (ad : Addr) (c : Nat) : (Builtin.append_ #[24, 24] 24 #[.slice (some ad) 0 0, .slice none 0 c]).run Tryz.prog w = .ok (.slice (some ad) 0 0) w := by
  obtain ⟨i0, hi0, hz0, hz1, hz2⟩ := info_parts info_move
  simp [Builtin.append_, run_underlying Tryz.underlying24, sizeOf, typeInfo, hi0, Builtin.lenOf, Builtin.firstCells, storeCells]
theorem wpList_append_emvs {w : World} {ops : Array Oper} {rest : List Oper} {o : Oper} {a : Act} {Q : Exit → Act → World → Prop} (hgd : o.guard = none) (s x : Operand) (ad : Addr) (c : Nat)
    (ho : o.op = .call { callee := .builtin .append, args := #[s, x], argTypes := #[24, 24] }) (hty : o.type = 24) (hs : a.eval s = .slice (some ad) 0 0) (hx : a.eval x = .slice none 0 c)
    (h : wpList Tryz.prog ops Q rest (a.put o.dst (.slice (some ad) 0 0)) w) : wpList Tryz.prog ops Q (o :: rest) a w :=
  wpList_plain hgd fun _ hK => by
    have hr := run_append_emvs w ad c
    unfold Oper.wp execOp
    simp only [ho, hty, resolve, invoke, builtin, Sem.run_bind, Sem.run_pure, Result.andThen_ok, List.map_toArray, List.map_cons, List.map_nil, hs, hx, hr]
    exact hK _ _ h
end Go.Proofs.YtkfpiafgfjpodaaGreat.Ma
namespace Go.Proofs.YtkfpiafgfjpodaaGreat.Ar
open Go.RowKit Go.Shelf Mr Me Ma Wc Wm Wr
set_option maxRecDepth 100000 in
set_option maxHeartbeats 1000000 in
theorem sameInts_eq {W : World} {S1 S2 : Nat → Prop} {v u : Value} {l : List Int} (ha : Has W S1 3 1 v l.length (ints l)) (hb : Has W S2 3 1 u l.length (ints l)) (hn : l.length ≤ 100000) :
    Calls Tryz.prog 20 #[v, u] W fun e w' => e = .returned (.bool true) ∧ Below W.heap.size W w' := by
  obtain ⟨p1, q1, rfl, _⟩ := ha.form
  obtain ⟨p2, q2, rfl, _⟩ := hb.form
  replace ha := Mr.hid ha
  replace hb := Mr.hid hb
  go_enter Tryz.func20, Tryz.ntmps20
  go_wp2
  go_loopg [5] l.length (fun k s wy => ∃ j : Nat, s = .int .i64 (j : Int) ∧ j + k = l.length ∧ Below W.heap.size W wy)
  case atStart => exact ⟨0, rfl, by omega, Below.refl _ _⟩
  case round =>
    obtain ⟨j, rfl, hj, hB⟩ := hrel
    by_cases hjl : j < l.length
    · obtain ⟨x, hx⟩ : ∃ x, l[j]? = some x := ⟨_, List.getElem?_eq_getElem hjl⟩
      have ha' := ha.out
      have hb' := hb.out
      obtain ⟨ga, qa, hga, _, hga2, hga3, hga4⟩ := ha'.there (by omega)
      obtain ⟨gb, qb, hgb, _, hgb2, hgb3, hgb4⟩ := hb'.there (by omega)
      cases hga
      cases hgb
      unfold maxLen at hga4 hgb4
      have f0 := (hB.cell (p := ⟨ga, j, none⟩) hga2).trans (ha'.cells (g := ga) rfl j (.int .i64 x) (by simp [ints, hx]))
      have g0 := (hB.cell (p := ⟨gb, j, none⟩) hgb2).trans (hb'.cells (g := gb) rfl j (.int .i64 x) (by simp [ints, hx]))
      have hji : (j : Int) < (l.length : Int) := by omega
      clear ha' hb'
      replace hx := Mr.hid hx
      have fin := fun nq => hB.trans ((Bx.draws W.heap.size wr nq))
      replace fin := Mr.hid fin
      replace hB := Mr.hid hB
      go_wp2
      go_quiet (fail)
      go_wp2
      go_roundg (gk - 1)
      case measure => omega
      case rel => exact ⟨j + 1, by simp, by omega, fin.out _⟩
    · replace hB := Mr.hid hB
      go_wp2
      go_ret
      exact ⟨rfl, hB.out⟩
end Go.Proofs.YtkfpiafgfjpodaaGreat.Ar
