/-
  SCHEDULE: one act on both heaps.
-/
import Derived.Test.YtfbneodldlcdjaaShDocN
namespace Go.Proofs.Ytfbneodldlcdjaa.Sh
open Go.RowKit Mr Md Me
set_option linter.unusedVariables false
set_option linter.unusedSimpArgs false
set_option maxRecDepth 100000
/-- Both heaps, side by side; U: all their blocks. -/
structure Sy (w : World) (bh bd : Nat) (U Sh Sd : Nat → Prop) (vh vd : Value) (l m : List Tr) (p : Int) : Prop where
  hh : Hh w bh Sh vh l p
  hd : Hd w bd Sd vd m
  tog : Tog l m p
  uh : U bh
  ud : U bd
  us : ∀ k, Sh k → U k
  ut : ∀ k, Sd k → U k
  ne : bh ≠ bd
  n1 : ¬ Sd bh
  n2 : ¬ Sh bd
  dj : ∀ k, Sh k → ¬ Sd k
  inb : ∀ k, U k → k < w.heap.size
section
variable {w w' : World} {bh bd : Nat} {U Sh Sd T : Nat → Prop} {vh vd : Value} {l m : List Tr} {p : Int}
theorem Sy.fr (h : Sy w bh bd U Sh Sd vh vd l m p) (hf : Fr w w' T) (hd : ∀ k, U k → ¬ T k) : Sy w' bh bd U Sh Sd vh vd l m p :=
  ⟨h.hh.fr hf (hd _ h.uh) (fun k hk _ => hd k (h.us k hk)), h.hd.fr hf (hd _ h.ud) (fun k hk _ => hd k (h.ut k hk)), h.tog, h.uh, h.ud, h.us, h.ut, h.ne, h.n1, h.n2, h.dj, fun k hk => Nat.lt_of_lt_of_le (h.inb k hk) hf.size⟩
theorem Sy.below (h : Sy w bh bd U Sh Sd vh vd l m p) (hB : Below w.heap.size w w') : Sy w' bh bd U Sh Sd vh vd l m p := h.fr (T := fun _ => False) (Fr.of_below hB) (fun _ _ e => e)
theorem Sy.len (h : Sy w bh bd U Sh Sd vh vd l m p) : l.length = m.length := h.tog.per.length_eq
end
/-- Behind both heaps' changes. -/
theorem sy_step {w w0 w1 w2 : World} {bh bd : Nat} {U Sh Sd : Nat → Prop} {vh vd vh' vd' : Value} {l m l' m' : List Tr} {p p' : Int} (h : Sy w bh bd U Sh Sd vh vd l m p) (hB : Below w.heap.size w w0)
    (h1 : Hh w1 bh (fun q => Sh q ∨ w0.heap.size ≤ q) vh' l' p') (f1 : Fr w0 w1 (fun q => q = bh ∨ Sh q)) (h2 : Hd w2 bd (fun q => Sd q ∨ w1.heap.size ≤ q) vd' m') (f2 : Fr w1 w2 (fun q => q = bd ∨ Sd q)) (ht : Tog l' m' p') :
    Sy w2 bh bd (fun k => U k ∨ (w.heap.size ≤ k ∧ k < w2.heap.size)) (fun q => (Sh q ∨ w0.heap.size ≤ q) ∧ q < w1.heap.size) (fun q => (Sd q ∨ w1.heap.size ≤ q) ∧ q < w2.heap.size) vh' vd' l' m' p' ∧ Fr w w2 U := by
  have s0 := hB.size
  have s1 := f1.size
  have s2 := f2.size
  have ih := h.inb _ h.uh
  have id := h.inb _ h.ud
  refine ⟨⟨h1.inb.fr f2 ?_ ?_, h2.inb, ht, .inl h.uh, .inl h.ud, ?_, ?_, h.ne, ?_, ?_, ?_, ?_⟩, ?_⟩
  · exact fun e => e.elim (fun e => h.ne e) h.n1
  · rintro k ⟨hk | hk, hk2⟩ _ e
    · exact e.elim (fun e => h.n2 (e ▸ hk)) (h.dj k hk)
    · rcases e with e | e
      · omega
      · have := h.inb _ (h.ut k e); omega
  · rintro k ⟨hk | hk, hk2⟩
    · exact .inl (h.us k hk)
    · exact .inr ⟨by omega, by omega⟩
  · rintro k ⟨hk | hk, hk2⟩
    · exact .inl (h.ut k hk)
    · exact .inr ⟨by omega, by omega⟩
  · rintro ⟨hk | hk, hk2⟩
    · exact h.n1 hk
    · omega
  · rintro ⟨hk | hk, hk2⟩
    · exact h.n2 hk
    · omega
  · rintro k ⟨hk | hk, hk2⟩ ⟨hj | hj, hj2⟩
    · exact h.dj k hk hj
    · have := h.inb _ (h.us k hk); omega
    · have := h.inb _ (h.ut k hj); omega
    · omega
  · rintro k (hk | hk)
    · have := h.inb _ hk; omega
    · exact hk.2
  · refine ⟨f2.os.trans (f1.os.trans hB.os), f2.tape.trans (f1.tape.trans hB.tape), f2.output.trans (f1.output.trans hB.output), by omega, fun k hk hn => ?_⟩
    refine (f2.block k (by omega) ?_).trans ((f1.block k (by omega) ?_).trans (hB.block k hk))
    · exact fun e => e.elim (fun e => hn (e ▸ h.ud)) (fun e => hn (h.ut k e))
    · exact fun e => e.elim (fun e => hn (e ▸ h.uh)) (fun e => hn (h.us k e))
theorem act_cells {w : World} {b : Nat} {o : Bool} {k x : Int} (h : w.heap[b]? = some (.cells #[.bool o, .int .i64 k, .int .i64 x] 46 (0, 0))) : w.cell? ⟨b, 0, none⟩ = some (.bool o) ∧ w.cell? ⟨b, 1, none⟩ = some (.int .i64 k) ∧ w.cell? ⟨b, 2, none⟩ = some (.int .i64 x) ∧ b < w.heap.size :=
  ⟨by rw [cell_blk h]; rfl, by rw [cell_blk h]; rfl, by rw [cell_blk h]; rfl, (Array.getElem?_eq_some_iff.1 h).1⟩
set_option maxHeartbeats 16000000 in
theorem acted_put {w : World} {bh bd : Nat} {U Sh Sd : Nat → Prop} {vh vd : Value} {l m : List Tr} {p : Int} (h : Sy w bh bd U Sh Sd vh vd l m p) (hm : m.length ≤ 7000000000000) (hp0 : 0 ≤ p) (hp1 : p ≤ 7000000000000) (k x : Int) :
    Calls Try.prog 12 #[.pointer (some ⟨bh, 0, none⟩), .pointer (some ⟨bd, 0, none⟩), .agg #[.bool false, .int .i64 k, .int .i64 x]] w fun e w' => e = .returned (.bool true) ∧ ∃ Sh' Sd' vh' vd' l', Sy w' bh bd (fun k => U k ∨ (w.heap.size ≤ k ∧ k < w'.heap.size)) Sh' Sd' vh' vd' l' (m ++ [⟨k, x, p⟩]) (p + 1) ∧ Fr w w' U := by
  have hl := h.len
  have B0 : ∀ o, Below w.heap.size w (w.alloc o) := fun o => (Below.refl _ _).alloc (Nat.le_refl _) o
  have hX : ∀ o, (w.alloc o).heap[w.heap.size]? = some o := fun o => heap_alloc_new w o
  have h0 := h.below (B0 (.cells #[.bool false, .int .i64 k, .int .i64 x] 46))
  obtain ⟨c0, c1, c2, cl⟩ := act_cells (hX (.cells #[.bool false, .int .i64 k, .int .i64 x] 46))
  have P1 := put_any h0.hh (by omega) h0.tog.hep hp0 (by omega) k x
  have hx0 := Mr.hid (hX (.cells #[.bool false, .int .i64 k, .int .i64 x] 46))
  have hb0 := Mr.hid (B0 (.cells #[.bool false, .int .i64 k, .int .i64 x] 46))
  replace hl := Mr.hid hl
  replace h := Mr.hid h
  replace h0 := Mr.hid h0
  replace P1 := Mr.hid P1
  clear B0 hX
  go_enter Try.func12, Try.ntmps12
  go_upto_region 1 with (fail)
  generalize w.alloc (.cells #[.bool false, .int .i64 k, .int .i64 x] 46) = w0 at *
  go_upto_region 3 with (go_at_call 17; refine P1.out.mono ?_; clear P1; rintro e w1 ⟨rfl, vh', l', g1, g2, g3, g4⟩; replace g1 := Mr.hid g1; replace g2 := Mr.hid g2; replace g3 := Mr.hid g3; replace g4 := Mr.hid g4)
  clear c0 c1 c2 cl
  have hw0 : w.heap.size < w0.heap.size := (Array.getElem?_eq_some_iff.1 hx0.out).1
  have hx1 := (g4.out.block w.heap.size hw0 (fun e => by
    rcases e with e | e
    · have := h.out.inb _ h.out.uh; omega
    · have := h.out.inb _ (h.out.us _ e); omega)).trans hx0.out
  obtain ⟨c0, c1, c2, cl⟩ := act_cells hx1
  have hd1 := h0.out.hd.fr g4.out (fun e => e.elim (fun e => h.out.ne e.symm) h.out.n2) (fun q hq _ e => e.elim (fun e => h.out.n1 (e ▸ hq)) (fun e => h.out.dj q e hq))
  have R1 := Mr.hid (rput_any hd1 (by omega) k x p)
  replace hx1 := Mr.hid hx1
  replace hd1 := Mr.hid hd1
  go_upto_region 4 with (go_at_call 18; refine R1.out.mono ?_; clear R1; rintro e w2 ⟨rfl, vd', d1, d2⟩; replace d1 := Mr.hid d1; replace d2 := Mr.hid d2)
  clear c0 c1 c2 cl
  have ht := h.out.tog.put hp0 k x g3.out g2.out
  obtain ⟨hs, hf⟩ := sy_step h.out hb0.out g1.out g4.out d1.out d2.out ht
  have L := fun nq => len_any (hs.hh.below (Bx.draws _ _ nq))
  have hlen : l'.length = m.length + 1 := by have := hs.len; simpa using this
  rw [hlen] at L
  have k0 := hs.hd.c0
  have kl := hs.hd.lt
  obtain ⟨va, vc, rfl, hvc⟩ := hs.hd.row.form
  replace L := Mr.hid L
  replace hlen := Mr.hid hlen
  have hml : (m ++ [(⟨k, x, p⟩ : Tr)]).length = m.length + 1 := by simp
  rw [hml] at k0
  replace hml := Mr.hid hml
  replace hs := Mr.hid hs
  replace hf := Mr.hid hf
  replace ht := Mr.hid ht
  go_quiet (first | (go_at_call 13; exact Calls.quiet_of_same (L.out _)))
  have B3 := Bx.draws w2.heap.size w2 nq
  have hend := Mr.hid (show ∃ Sh' Sd' vh' vd' l', Sy (w2.drewN nq) bh bd (fun k => U k ∨ (w.heap.size ≤ k ∧ k < (w2.drewN nq).heap.size)) Sh' Sd' vh' vd' l' (m ++ [⟨k, x, p⟩]) (p + 1) ∧ Fr w (w2.drewN nq) U from ⟨_, _, _, _, l', (by simpa using hs.out.below B3), hf.out.trans (Fr.of_below B3)⟩)
  clear k0 kl B3
  generalize w2.drewN nq = w3 at *
  go_wp2
  go_ret
  exact ⟨rfl, hend.out⟩
theorem Sy.wide {w : World} {bh bd : Nat} {U V Sh Sd : Nat → Prop} {vh vd : Value} {l m : List Tr} {p : Int} (h : Sy w bh bd U Sh Sd vh vd l m p) (hV : ∀ k, U k → V k) (hb : ∀ k, V k → k < w.heap.size) : Sy w bh bd V Sh Sd vh vd l m p :=
  ⟨h.hh, h.hd, h.tog, hV _ h.uh, hV _ h.ud, fun k hk => hV k (h.us k hk), fun k hk => hV k (h.ut k hk), h.ne, h.n1, h.n2, h.dj, hb⟩
set_option maxHeartbeats 16000000 in
theorem acted_none {w : World} {bh bd : Nat} {U Sh Sd : Nat → Prop} {vh vd : Value} {l m : List Tr} {p : Int} (h : Sy w bh bd U Sh Sd vh vd l m p) (hm : m.length = 0) (k x : Int) :
    Calls Try.prog 12 #[.pointer (some ⟨bh, 0, none⟩), .pointer (some ⟨bd, 0, none⟩), .agg #[.bool true, .int .i64 k, .int .i64 x]] w fun e w' => e = .returned (.bool true) ∧ ∃ Sh' Sd' vh' vd' l' m', Sy w' bh bd (fun k => U k ∨ (w.heap.size ≤ k ∧ k < w'.heap.size)) Sh' Sd' vh' vd' l' m' p ∧ m'.length = m.length - 1 ∧ Fr w w' U := by
  have hl := h.len
  rw [hm] at hl
  obtain rfl : l = [] := List.eq_nil_of_length_eq_zero hl
  obtain rfl : m = [] := List.eq_nil_of_length_eq_zero hm
  clear hl hm
  have B0 : ∀ o, Below w.heap.size w (w.alloc o) := fun o => (Below.refl _ _).alloc (Nat.le_refl _) o
  have hX : ∀ o, (w.alloc o).heap[w.heap.size]? = some o := fun o => heap_alloc_new w o
  have h0 := h.below (B0 (.cells #[.bool true, .int .i64 k, .int .i64 x] 46))
  obtain ⟨c0, c1, c2, cl⟩ := act_cells (hX (.cells #[.bool true, .int .i64 k, .int .i64 x] 46))
  have P1 := next_none h0.hh
  have hb0 := Mr.hid (B0 (.cells #[.bool true, .int .i64 k, .int .i64 x] 46))
  replace h := Mr.hid h
  replace h0 := Mr.hid h0
  replace P1 := Mr.hid P1
  clear B0 hX
  go_enter Try.func12, Try.ntmps12
  go_upto_region 1 with (fail)
  generalize w.alloc (.cells #[.bool true, .int .i64 k, .int .i64 x] 46) = w0 at *
  go_upto_region 6 with (go_at_call 19; refine P1.out.mono ?_; clear P1; rintro e w1 ⟨rfl, hB1⟩; replace hb0 := Mr.hid (hb0.out.trans (hB1.mono hb0.out.size)); clear hB1)
  clear c0 c1 c2 cl
  have h1 := h.out.below hb0.out
  have R1 := Mr.hid (rnext_none h1.hd)
  replace h1 := Mr.hid h1
  go_upto_region 7 with (go_at_call 20; refine R1.out.mono ?_; clear R1; rintro e w2 ⟨rfl, hw2⟩; obtain rfl := hw2.symm)
  have L := Mr.hid (fun nq => len_any (h1.out.hh.below (Bx.draws _ _ nq)))
  have k0 := h1.out.hd.c0
  have kl := h1.out.hd.lt
  obtain ⟨va, vc, rfl, hvc⟩ := h1.out.hd.row.form
  have z1 : ((0 : Int) == 0) = true := rfl
  go_quiet (first | (go_at_call 13; exact Calls.quiet_of_same (L.out _)))
  have B3 := Bx.draws w1.heap.size w1 nq
  have hB3 := hb0.out.trans (B3.mono hb0.out.size)
  have hend := Mr.hid (show ∃ Sh' Sd' vh' vd' l' m', Sy (w1.drewN nq) bh bd (fun k => U k ∨ (w.heap.size ≤ k ∧ k < (w1.drewN nq).heap.size)) Sh' Sd' vh' vd' l' m' p ∧ m'.length = ([] : List Tr).length - 1 ∧ Fr w (w1.drewN nq) U from ⟨_, _, _, _, [], [], (h.out.below hB3).wide (fun k hk => .inl hk) (fun k hk => by
      rcases hk with hk | hk
      · have := h.out.inb k hk; have := hB3.size; omega
      · exact hk.2), rfl, Fr.of_below hB3⟩)
  clear k0 kl B3 hB3
  generalize w1.drewN nq = w3 at *
  go_wp2
  go_ret
  exact ⟨rfl, hend.out⟩
set_option maxHeartbeats 16000000 in
theorem acted_some {w : World} {bh bd : Nat} {U Sh Sd : Nat → Prop} {vh vd : Value} {l m : List Tr} {p : Int} (h : Sy w bh bd U Sh Sd vh vd l m p) (hm : m.length ≤ 7000000000000) (hm0 : 0 < m.length) (k x : Int) :
    Calls Try.prog 12 #[.pointer (some ⟨bh, 0, none⟩), .pointer (some ⟨bd, 0, none⟩), .agg #[.bool true, .int .i64 k, .int .i64 x]] w fun e w' => e = .returned (.bool true) ∧ ∃ Sh' Sd' vh' vd' l' m', Sy w' bh bd (fun k => U k ∨ (w.heap.size ≤ k ∧ k < w'.heap.size)) Sh' Sd' vh' vd' l' m' p ∧ m'.length = m.length - 1 ∧ Fr w w' U := by
  have hl := h.len
  have B0 : ∀ o, Below w.heap.size w (w.alloc o) := fun o => (Below.refl _ _).alloc (Nat.le_refl _) o
  have hX : ∀ o, (w.alloc o).heap[w.heap.size]? = some o := fun o => heap_alloc_new w o
  have h0 := h.below (B0 (.cells #[.bool true, .int .i64 k, .int .i64 x] 46))
  obtain ⟨c0, c1, c2, cl⟩ := act_cells (hX (.cells #[.bool true, .int .i64 k, .int .i64 x] 46))
  have P1 := next_some h0.hh (by omega) h0.tog.hep (by omega)
  have hb0 := Mr.hid (B0 (.cells #[.bool true, .int .i64 k, .int .i64 x] 46))
  obtain ⟨y, hy⟩ : ∃ y, y = tr l 0 := ⟨_, rfl⟩
  rw [← hy] at P1
  replace hy := Mr.hid hy
  replace hl := Mr.hid hl
  replace h := Mr.hid h
  replace h0 := Mr.hid h0
  replace P1 := Mr.hid P1
  clear B0 hX
  go_enter Try.func12, Try.ntmps12
  go_upto_region 1 with (fail)
  generalize w.alloc (.cells #[.bool true, .int .i64 k, .int .i64 x] 46) = w0 at *
  go_upto_region 6 with (go_at_call 19; refine P1.out.mono ?_; clear P1; rintro e w1 ⟨rfl, vh', l', g1, g2, g3, g4⟩; replace g1 := Mr.hid g1; replace g2 := Mr.hid g2; replace g3 := Mr.hid g3; replace g4 := Mr.hid g4)
  clear c0 c1 c2 cl
  have hd1 := h0.out.hd.fr g4.out (fun e => e.elim (fun e => h.out.ne e.symm) h.out.n2) (fun q hq _ e => e.elim (fun e => h.out.n1 (e ▸ hq)) (fun e => h.out.dj q e hq))
  have R1 := Mr.hid (rnext_some hd1 (by omega) hm0)
  replace hd1 := Mr.hid hd1
  go_upto_region 7 with (go_at_call 20; refine R1.out.mono ?_; clear R1; rintro e w2 ⟨a, hF, rfl, ⟨vd', d1, d2⟩⟩; have hT := h.out.tog.next (by have := hl.out; omega) hF g3.out g2.out; have hxa : tr m a = y := (hT.2.symm.trans hy.out.symm); rw [hxa]; replace hT := Mr.hid hT.1; replace hF := Mr.hid hF; replace hxa := Mr.hid hxa; replace d1 := Mr.hid d1; replace d2 := Mr.hid d2)
  have hg1 : Hh w1 bh (fun q => Sh q ∨ w0.heap.size ≤ q) vh' l' p := g1.out.mono (fun q hq => .inl hq) (fun e => e.elim h.out.hh.nb (fun e => by have := h0.out.hh.lt; omega))
  obtain ⟨hs, hf⟩ := sy_step h.out hb0.out hg1 g4.out d1.out d2.out hT.out
  have hml : (cut m a).length = m.length - 1 := cut_len hF.out.lt
  have L := fun nq => len_any (hs.hh.below (Bx.draws _ _ nq))
  have hlen : l'.length = m.length - 1 := by rw [hs.len, hml]
  obtain ⟨q, hq⟩ : ∃ q, m.length - 1 = q := ⟨_, rfl⟩
  rw [hq] at hml hlen
  rw [hlen] at L
  have k0 := hs.hd.c0
  have kl := hs.hd.lt
  obtain ⟨va, vc, rfl, hvc⟩ := hs.hd.row.form
  rw [hml] at k0
  replace L := Mr.hid L
  replace hlen := Mr.hid hlen
  replace hml := Mr.hid hml
  replace hq := Mr.hid hq
  replace hs := Mr.hid hs
  replace hf := Mr.hid hf
  replace hg1 := Mr.hid hg1
  have z1 : (y.k == y.k) = true := by simp
  have z2 : (y.v == y.v) = true := by simp
  go_quiet (first | (go_at_call 13; exact Calls.quiet_of_same (L.out _)))
  have B3 := Bx.draws w2.heap.size w2 nq
  have hend := Mr.hid (show ∃ Sh' Sd' vh' vd' l' m', Sy (w2.drewN nq) bh bd (fun k => U k ∨ (w.heap.size ≤ k ∧ k < (w2.drewN nq).heap.size)) Sh' Sd' vh' vd' l' m' p ∧ m'.length = m.length - 1 ∧ Fr w (w2.drewN nq) U from ⟨_, _, _, _, l', cut m a, (by simpa using hs.out.below B3), by rw [hq.out]; exact hml.out, hf.out.trans (Fr.of_below B3)⟩)
  clear k0 kl B3
  generalize w2.drewN nq = w3 at *
  go_wp2
  go_ret
  exact ⟨rfl, hend.out⟩
end Go.Proofs.Ytfbneodldlcdjaa.Sh
