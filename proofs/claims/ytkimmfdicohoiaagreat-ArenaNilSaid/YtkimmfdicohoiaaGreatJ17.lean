import Derived.Test.YtkimmfdicohoiaaGreatJ16
/-
  THE STATE WITHIN A STEP, with a set T of blocks that hold whatever objects lie beside the machine (an arena, tasks, boxes): what the desk's calls leave as it is, and what may be written there.
-/
namespace Go.Proofs.YtkimmfdicohoiaaGreat.Ma
open Go.RowKit Mr Me
/-- The blocks T, as they lie at W. -/
def snap (W : World) (T : Nat → Prop) : Nat → Obj → Prop := fun k o => T k ∧ W.heap[k]? = some o
/-- The blocks T are as they were. -/
def Sm (W w : World) (T : Nat → Prop) : Prop := ∀ k, T k → w.heap[k]? = W.heap[k]?
def E (W0 : World) (U0 S0 X0 : Nat → Prop) (p : Ph) (i : Nat) (now : Int) (T : Nat → Prop) (sp : Bool) (s : Ss) (W : World) : Prop :=
  ∃ vs, (X0 p.bb ∧ ∀ k, vs.ownBlock = some k → X0 k ∨ W0.heap.size ≤ k) ∧ (∀ k, T k → X0 k ∨ W0.heap.size ≤ k) ∧ (∀ k, T k → k < W.heap.size) ∧ D W0 U0 S0 X0 { p with vs := vs } i now (snap W T) sp s W
theorem Sm.refl (W : World) (T : Nat → Prop) : Sm W W T := fun _ _ => rfl
theorem Sm.trans {a b c : World} {T : Nat → Prop} (h : Sm a b T) (k : Sm b c T) : Sm a c T := fun j hj => (k j hj).trans (h j hj)
theorem Sm.mono {a b : World} {T T' : Nat → Prop} (h : Sm a b T) (hT : ∀ k, T' k → T k) : Sm a b T' := fun j hj => h j (hT j hj)
theorem Sm.cell {a b : World} {T : Nat → Prop} (h : Sm a b T) {k : Nat} (hk : T k) (j : Nat) : b.cell? ⟨k, j, none⟩ = a.cell? ⟨k, j, none⟩ := World.cell?_of_block (h k hk)
section
variable {W0 : World} {U0 S0 X0 : Nat → Prop} {p : Ph} {i : Nat} {now : Int} {T : Nat → Prop} {s s' : Ss} {W w : World} {sp sp' : Bool} {vs : Value}
theorem D.monoX {X X' : Nat → Obj → Prop} (h : D W0 U0 S0 X0 p i now X sp s W) (hX : ∀ k o, X' k o → X k o) : D W0 U0 S0 X0 p i now X' sp s W := by
  obtain ⟨U, S, vl, va, hx, hr⟩ := h
  exact ⟨U, S, vl, va, fun k o hk => hx k o (hX k o hk), hr⟩
theorem E.back (hvs : X0 p.bb ∧ ∀ k, vs.ownBlock = some k → X0 k ∨ W0.heap.size ≤ k) (hT0 : ∀ k, T k → X0 k ∨ W0.heap.size ≤ k) (hTl : ∀ k, T k → k < W.heap.size) (h : D W0 U0 S0 X0 { p with vs := vs } i now (snap W T) sp s w) : E W0 U0 S0 X0 p i now T sp s w ∧ Sm W w T := by
  have hk : ∀ k, T k → w.heap[k]? = W.heap[k]? ∧ k < w.heap.size := fun k hk => by
    have h1 := Array.getElem?_eq_getElem (hTl k hk)
    have h2 := D.at h (k := k) ⟨hk, h1⟩
    exact ⟨h2.trans h1.symm, (Array.getElem?_eq_some_iff.1 h2).1⟩
  exact ⟨⟨vs, hvs, hT0, fun k h => (hk k h).2, h.monoX (fun k o ho => ⟨ho.1, ((hk k ho.1).1).symm.trans ho.2⟩)⟩, fun k h => (hk k h).1⟩
theorem E.drew (h : E W0 U0 S0 X0 p i now T sp s W) : E W0 U0 S0 X0 p i now T sp s W.drew := by
  obtain ⟨vs, h1, h2, h3, h4⟩ := h
  exact ⟨vs, h1, h2, h3, h4.drew⟩
theorem E.size (h : E W0 U0 S0 X0 p i now T sp s W) : W0.heap.size ≤ W.heap.size := by
  obtain ⟨vs, h1, h2, h3, h4⟩ := h
  exact h4.size
theorem E.dk (h : E W0 U0 S0 X0 p i now T sp s W) : Dk W p.bd p.be p.bb ⟨p.gt, i * 5, none⟩ i now sp := by
  obtain ⟨vs, h1, h2, h3, h4⟩ := h
  exact h4.dk
theorem E.tl (h : E W0 U0 S0 X0 p i now T sp s W) : ∀ k, T k → k < W.heap.size := by
  obtain ⟨vs, h1, h2, h3, h4⟩ := h
  exact h3
theorem E.load (h : E W0 U0 S0 X0 p i now T false s W) (hb : Me.Roomy s.lg s.ah) (ad : Nat) (hi : ad < s.ws.length) :
    Calls Tryz.prog 101 #[.pointer (some ⟨p.bd, 0, none⟩), .int .i64 (ad : Int)] W fun e w' => e = .returned (.int .u64 (s.ws[ad]?.getD 0)) ∧ E W0 U0 S0 X0 p i now T true (s.loads i now ad) w' ∧ Sm W w' T := by
  obtain ⟨vs, h1, h2, h3, h4⟩ := h
  refine (desk_load h4 hb ad hi).mono ?_
  rintro e w' ⟨rfl, h5⟩
  exact ⟨rfl, E.back h1 h2 h3 h5⟩
theorem E.store (h : E W0 U0 S0 X0 p i now T false s W) (hb : Me.Roomy s.lg s.ah) (ad : Nat) (hi : ad < s.ws.length) (x : Int) :
    Calls Tryz.prog 110 #[.pointer (some ⟨p.bd, 0, none⟩), .int .i64 (ad : Int), .int .u64 x] W fun e w' => e = .returned (.tuple #[]) ∧ E W0 U0 S0 X0 p i now T true (s.stores i now ad x) w' ∧ Sm W w' T := by
  obtain ⟨vs, h1, h2, h3, h4⟩ := h
  refine (desk_store h4 hb ad hi x).mono ?_
  rintro e w' ⟨rfl, h5⟩
  exact ⟨rfl, E.back h1 h2 h3 h5⟩
theorem E.hit (h : E W0 U0 S0 X0 p i now T false s W) (hb : Me.Roomy s.lg s.ah) (ad : Nat) (hi : ad < s.ws.length) (old x : Int) (ho : s.ws[ad]?.getD 0 = old) :
    Calls Tryz.prog 105 #[.pointer (some ⟨p.bd, 0, none⟩), .int .i64 (ad : Int), .int .u64 old, .int .u64 x] W fun e w' => e = .returned (.bool true) ∧ E W0 U0 S0 X0 p i now T true (s.hits i now ad old x) w' ∧ Sm W w' T := by
  obtain ⟨vs, h1, h2, h3, h4⟩ := h
  refine (desk_hit h4 hb ad hi old x ho).mono ?_
  rintro e w' ⟨rfl, h5⟩
  exact ⟨rfl, E.back h1 h2 h3 h5⟩
theorem E.miss (h : E W0 U0 S0 X0 p i now T false s W) (hb : Me.Roomy s.lg s.ah) (ad : Nat) (hi : ad < s.ws.length) (old x : Int) (ho : s.ws[ad]?.getD 0 ≠ old) :
    Calls Tryz.prog 105 #[.pointer (some ⟨p.bd, 0, none⟩), .int .i64 (ad : Int), .int .u64 old, .int .u64 x] W fun e w' => e = .returned (.bool false) ∧ E W0 U0 S0 X0 p i now T true (s.misses i now ad old x) w' ∧ Sm W w' T := by
  obtain ⟨vs, h1, h2, h3, h4⟩ := h
  refine (desk_miss h4 hb ad hi old x ho).mono ?_
  rintro e w' ⟨rfl, h5⟩
  exact ⟨rfl, E.back h1 h2 h3 h5⟩
theorem E.answer (h : E W0 U0 S0 X0 p i now T sp s W) (t : Th) (ht : s.ths[i]? = some t) (ak av : Int) :
    Calls Tryz.prog 169 #[.pointer (some ⟨p.bd, 0, none⟩), .agg #[.int .i64 ak, .int .i64 av]] W fun e w' => e = .returned (.tuple #[]) ∧ E W0 U0 S0 X0 p i now T sp { s with ths := s.ths.set i { t with ak := ak, av := av } } w' ∧ Sm W w' T := by
  obtain ⟨vs, h1, h2, h3, h4⟩ := h
  refine (answer_any h4 t ht ak av).mono ?_
  rintro e w' ⟨rfl, h5⟩
  exact ⟨rfl, E.back h1 h2 h3 h5⟩
/-- What is written into the blocks T, and what is new: T' are the blocks that count from then on. -/
theorem E.write {T' : Nat → Prop} (h : E W0 U0 S0 X0 p i now T sp s W) (hf : Fr W w T) (hT : ∀ k, T' k → k < w.heap.size ∧ (T k ∨ W.heap.size ≤ k)) : E W0 U0 S0 X0 p i now T' sp s w := by
  obtain ⟨vs, h1, h2, h3, U, S, vl, va, hx, hm, hd, hU, hS0, hU0, hU1, hf0⟩ := h
  have h0 := hf0.size
  have hs := hf.size
  have hx' : ∀ k, T k → U k ∧ ¬ S k ∧ k ≠ p.b ∧ k ≠ p.bb ∧ k ≠ p.gt ∧ p.vc.ownBlock ≠ some k ∧ vs.ownBlock ≠ some k := fun k hk => (hx k _ ⟨hk, Array.getElem?_eq_getElem (h3 k hk)⟩).2
  have hk : ∀ k, U k → ¬ T k → w.heap[k]? = W.heap[k]? := fun k hu ht => hf.block k (hm.ul k hu) ht
  have nt : ∀ {k}, (T k → False) → U k → w.heap[k]? = W.heap[k]? := fun hn hu => hk _ hu hn
  have up : ∀ k, U k → (U k ∨ W.heap.size ≤ k) ∧ k < w.heap.size := fun k hu => ⟨.inl hu, Nat.lt_of_lt_of_le (hm.ul k hu) hs⟩
  refine ⟨vs, h1, fun k hk => (hT k hk).2.elim (h2 k) (fun h => .inr (by omega)), fun k hk => (hT k hk).1, fun k => (U k ∨ W.heap.size ≤ k) ∧ k < w.heap.size, S, vl, va, ?_, ?_, ?_, ⟨?_, ?_, hU.2.2⟩, hS0, ?_, fun k hk => up k (hU1 k hk), ?_⟩
  · rintro k o ⟨hk1, hk2⟩
    obtain ⟨hl, ht | ht⟩ := hT k hk1
    · obtain ⟨y1, y2⟩ := hx' k ht
      exact ⟨hk2, up k y1, y2⟩
    · have hgt := (hm.thr.lt p.gt rfl).2
      have hb := hm.lt
      have hbb := hm.ltb
      simp only at hb hbb
      refine ⟨hk2, ⟨.inr ht, hl⟩, fun hS => ?_, ?_, ?_, ?_, fun e => ?_, fun e => ?_⟩
      · have := hm.ul k (hm.su k hS); omega
      · simp only; omega
      · simp only; omega
      · simp only; omega
      · have := (hm.cal.lt k e).2; omega
      · have := (hm.shf.lt k e).2; omega
  · have hgt := (hm.thr.lt p.gt rfl).1
    exact ⟨(nt (fun ht => (hx' _ ht).2.2.1 rfl) hm.ub.1).trans hm.blk, (nt (fun ht => (hx' _ ht).2.2.2.1 rfl) hm.ubb.1).trans hm.bk, hm.mem.kept (fun k hs' _ => nt (fun ht => (hx' _ ht).2.1 hs') (hm.su k hs')),
      hm.thr.kept (fun k e => nt (fun ht => (hx' _ ht).2.2.2.2.1 (by simpa [Value.ownBlock] using e.symm)) (hm.thr.lt k e).1.1) (fun k e => ⟨up k (hm.thr.lt k e).1.1, (hm.thr.lt k e).1.2⟩),
      hm.cal.kept (fun k e => nt (fun ht => (hx' _ ht).2.2.2.2.2.1 e) (hm.cal.lt k e).1.1) (fun k e => ⟨up k (hm.cal.lt k e).1.1, (hm.cal.lt k e).1.2⟩),
      hm.shf.kept (fun k e => nt (fun ht => (hx' _ ht).2.2.2.2.2.2 e) (hm.shf.lt k e).1.1) (fun k e => ⟨up k (hm.shf.lt k e).1.1, (hm.shf.lt k e).1.2⟩),
      ⟨up _ hm.ub.1, hm.ub.2⟩, ⟨up _ hm.ubb.1, hm.ubb.2⟩, fun k hk => up k (hm.su k hk), fun k hk => hk.2⟩
  · exact hd.kept (hf.block _ hd.ltd (fun ht => hU.1 (hx' _ ht).1)) (hf.block _ hd.lte (fun ht => hU.2.1 (hx' _ ht).1))
  · rintro ⟨h | h, _⟩
    · exact hU.1 h
    · have := hd.ltd; simp only at h this; omega
  · rintro ⟨h | h, _⟩
    · exact hU.2.1 h
    · have := hd.lte; simp only at h this; omega
  · rintro k ⟨h | h, _⟩
    · exact hU0 k h
    · exact .inr (by omega)
  · refine hf0.trans (hf.mono (fun k hk => ?_))
    rcases h2 k hk with h | h
    · exact .inl (.inr (.inl h))
    · exact .inr h
theorem E.sub {T' : Nat → Prop} (h : E W0 U0 S0 X0 p i now T sp s W) (hT : ∀ k, T' k → T k) : E W0 U0 S0 X0 p i now T' sp s W :=
  h.write (Fr.refl _ _) (fun k hk => ⟨h.tl k (hT k hk), .inl (hT k hk)⟩)
theorem E.below (h : E W0 U0 S0 X0 p i now T sp s W) (hB : Below W.heap.size W w) : E W0 U0 S0 X0 p i now T sp s w ∧ Sm W w T :=
  ⟨h.write (Fr.of_below hB) (fun k hk => ⟨Nat.lt_of_lt_of_le (h.tl k hk) hB.size, .inl hk⟩), fun k hk => hB.block k (h.tl k hk)⟩
theorem E.set {k j : Nat} {v : Value} (h : E W0 U0 S0 X0 p i now T sp s W) (hk : T k) : E W0 U0 S0 X0 p i now T sp s (W.setCell ⟨k, j, none⟩ v) :=
  h.write ((Fr.refl W T).setCell _ _ (.inl hk)) (fun k' hk' => ⟨by simpa using h.tl k' hk', .inl hk'⟩)
end
end Go.Proofs.YtkimmfdicohoiaaGreat.Ma
/-
  THE DESK: Shift by its contract (made by genshift.py).
-/
namespace Go.Proofs.YtkimmfdicohoiaaGreat.Ma
open Go.RowKit Mr Me
theorem info_shift : (Tryz.prog.info? 96).map (fun i => (i.zero, i.size, i.bytes)) = some (some (.agg #[.int .i64 0, .int .i64 0, .int .i64 0, .int .i64 0, .int .i64 0]), 5, 40) := by kernel_rfl
section
variable {W : World} {U S : Nat → Prop} {b bb bm : Nat} {vk vt vc vs vw vl va : Value} {ths : List Th} {n : Int} {cls : List Cl} {shs : List Sh} {ws : List Int} {mv : Int} {lg : List Acc} {ah : List Int}
/-- A shift more. -/
theorem Mac.shifted (h : Mac W U S b bb bm vk vt vc vs vw vl va ths n cls shs ws mv lg ah) {w0 w1 : World} (hB : Below W.heap.size W w0) {v' : Value} {sh : Sh} {m : Nat} (hm : m = shs.length + 1)
    (hown : Has w1 (fun k => (U k ∧ ¬ S k) ∨ W.heap.size ≤ k) 96 5 v' m (shc shs ++ sh.cells)) (hgrow : w0.grownBy w1 vs.ownBlock) :
    Mac (w1.setCell ⟨bb, 2, none⟩ v') (fun k => (U k ∨ W.heap.size ≤ k) ∧ k < w1.heap.size) S b bb bm vk vt vc v' vw vl va ths n cls (shs ++ [sh]) ws mv lg ah ∧ Fr W (w1.setCell ⟨bb, 2, none⟩ v') (fun k => k = bb ∨ vs.ownBlock = some k) := by
  subst hm
  have hs := hB.size
  have hs1 := hgrow.size
  have hk : ∀ k, U k → vs.ownBlock ≠ some k → w1.heap[k]? = W.heap[k]? := fun k hU hne => (hgrow.block k (Nat.lt_of_lt_of_le (h.ul k hU) hs) (fun e => hne e.symm)).trans (hB.block k (h.ul k hU))
  have nb : vs.ownBlock ≠ some b := not_row h.blk h.shf (by decide)
  have nbb : vs.ownBlock ≠ some bb := not_row h.bk h.shf (by decide)
  have hbb : w1.heap[bb]? = some (.cells #[.pointer (some ⟨bm, 0, none⟩), vc, vs] 112 (0, 0)) := (hk bb h.ubb.1 nbb).trans h.bk
  have hv' : v'.ownBlock ≠ some bb := not_row hbb hown (by decide)
  have ho : ∀ k, k ≠ bb → (w1.setCell ⟨bb, 2, none⟩ v').heap[k]? = w1.heap[k]? := fun k hne => Below.heap_setCell _ _ _ k hne
  have nS : ∀ k, S k → vs.ownBlock ≠ some k := fun k hk e => (h.shf.lt k e).1.2 hk
  have up : ∀ k, U k ∧ ¬ S k → ((U k ∨ W.heap.size ≤ k) ∧ k < w1.heap.size) ∧ ¬ S k := fun k hk => ⟨⟨.inl hk.1, by have := h.ul k hk.1; omega⟩, hk.2⟩
  refine ⟨⟨(ho b h.bne).trans ((hk b h.ub.1 nb).trans h.blk), by rw [setBlk hbb]; rfl, h.mem.kept (fun k hs' _ => (ho k (fun e => h.ubb.2 (e ▸ hs'))).trans (hk k (h.su k hs') (nS k hs'))), ?_, ?_, ?_, up b h.ub, up bb h.ubb, fun k hk => ⟨.inl (h.su k hk), by have := h.ul k (h.su k hk); omega⟩, fun k hk => by simpa using hk.2⟩, ?_⟩
  · refine (h.thr.kept (fun k e => hk k (h.thr.lt k e).1.1 (fun e' => has_ne h.thr h.shf (by decide) k e e')) (fun k e => up k (h.thr.lt k e).1)).setCell _ _ (not_row h.bk h.thr (by decide))
  · refine (h.cal.kept (fun k e => hk k (h.cal.lt k e).1.1 (fun e' => has_ne h.cal h.shf (by decide) k e e')) (fun k e => up k (h.cal.lt k e).1)).setCell _ _ (not_row h.bk h.cal (by decide))
  · have hl : (shs ++ [sh]).length = shs.length + 1 := by simp
    have e2 : shc (shs ++ [sh]) = shc shs ++ sh.cells := by simp [shc]
    rw [hl, e2]
    refine (hown.kept (fun _ _ => rfl) (fun k e => ?_)).setCell _ _ hv'
    obtain ⟨h1, h2⟩ := hown.lt k e
    rcases h1 with h1 | h1
    · exact up k h1
    · exact ⟨⟨.inr h1, h2⟩, fun hS => by have := h.ul k (h.su k hS); omega⟩
  · exact ((Fr.of_below hB).grown hgrow (fun k hk => .inl (.inr hk))).setCell _ _ (.inl (.inl rfl))
set_option maxRecDepth 100000 in
set_option maxHeartbeats 2000000 in
theorem shift_mac {bd be : Nat} {pt : Addr} {i now : Int} {sp : Bool} (h : Mac W U S b bb bm vk vt vc vs vw vl va ths n cls shs ws mv lg ah) (hd : Dk W bd be bb pt i now sp) (hU : ¬ U bd ∧ ¬ U be) (hr : shs.length ≤ 100000) (slot fr to : Int) :
    Calls Tryz.prog 67 #[.pointer (some ⟨bd, 0, none⟩), .int .i64 slot, .int .i64 fr, .int .i64 to] W fun e w' => e = .returned (.tuple #[]) ∧
      ∃ vs', Mac w' (fun k => (U k ∨ W.heap.size ≤ k) ∧ k < w'.heap.size) S b bb bm vk vt vc vs' vw vl va ths n cls (shs ++ [⟨now, i, slot, fr, to⟩]) ws mv lg ah ∧ Fr W w' (fun k => k = bb ∨ vs.ownBlock = some k) ∧ (∀ k, vs'.ownBlock = some k → vs.ownBlock = some k ∨ W.heap.size ≤ k) := by
  obtain ⟨i0, hi, hz0, hz1, hz2⟩ := info_parts info_shift
  have hlt := h.ltb
  have hle := hd.lte
  have C := open_yes hd
  obtain ⟨a, cap, hv, hcap⟩ := h.shf.form
  subst hv
  have d0 := hd.d0
  have e0 := hd.e0
  have e2 := hd.e2
  have e3 := hd.e3
  have b2 : W.cell? ⟨bb, 2, none⟩ = some (.slice a shs.length cap) := h.b2
  have hne : be ≠ bb := fun e => hU.2 (e ▸ h.ubb.1)
  have nbb : (Value.slice a shs.length cap).ownBlock ≠ some bb := not_row h.bk h.shf (by decide)
  have nbe : (Value.slice a shs.length cap).ownBlock ≠ some be := fun e => hU.2 (h.shf.lt be e).1.1
  have law : ∀ (w0 : World), Below W.heap.size W w0 → Has w0 (fun k => (U k ∧ ¬ S k) ∨ W.heap.size ≤ k) 96 5 (.slice a shs.length cap) shs.length (shc shs) := fun w0 B => (h.shf.below B).mono (fun _ => .inl)
  replace h := Mr.hid h
  replace hd := Mr.hid hd
  replace hU := Mr.hid hU
  go_enter Tryz.func67, Tryz.ntmps67
  go_wp2_with (go_at_call 96; refine C.mono ?_; clear C; rintro e w' ⟨rfl, hw⟩; obtain rfl := hw.symm)
  refine wp_region_held_drew (S := fun w' => w'.cell? ⟨be, 0, none⟩ = some (.pointer (some ⟨bb, 0, none⟩)) ∧ w'.cell? ⟨be, 2, none⟩ = some (.int .i64 i) ∧ w'.cell? ⟨be, 3, none⟩ = some (.int .i64 now)) (by kernel_rfl) ⟨e0, e2, e3⟩ (fun hS => ?_)
  refine wpAnyH_take (i := 0) (v := .pointer (some ⟨be, 0, none⟩)) rfl (by kernel_rfl) (by kernel_rfl) (by kernel_rfl) (fun _ _ _ h => h) (Or.inl ⟨by rfl, fun w' hw => ?y0⟩) hS ?_
  case y0 =>
    obtain ⟨s1, s2, s3⟩ := hw
    clear hS
    go_simp
  refine wpAnyH_take (i := 1) (v := .pointer (some ⟨be, 0, none⟩)) rfl (by kernel_rfl) (by kernel_rfl) (by kernel_rfl) (fun _ _ _ h => h) (Or.inl ⟨by rfl, fun w' hw => ?y1⟩) hS ?_
  case y1 =>
    obtain ⟨s1, s2, s3⟩ := hw
    clear hS
    go_simp
  refine wpAnyH_take (i := 2) (v := .pointer (some ⟨be, 0, none⟩)) rfl (by kernel_rfl) (by kernel_rfl) (by kernel_rfl) (fun _ _ _ h => h) (Or.inl ⟨by rfl, fun w' hw => ?y2⟩) hS ?_
  case y2 =>
    obtain ⟨s1, s2, s3⟩ := hw
    clear hS
    go_simp
  refine wpAnyH_take (i := 3) (v := .pointer (some ⟨bb, 0, none⟩)) rfl (by kernel_rfl) (by kernel_rfl) (by kernel_rfl) (fun _ _ _ h => h) (Or.inl ⟨by rfl, fun w' hw => ?y3⟩) hS ?_
  case y3 =>
    obtain ⟨s1, s2, s3⟩ := hw
    clear hS
    go_simp
  refine wpAnyH_take (i := 4) (v := .pointer (some ⟨be, 0, none⟩)) rfl (by kernel_rfl) (by kernel_rfl) (by kernel_rfl) (fun _ _ _ h => h) (Or.inl ⟨by rfl, fun w' hw => ?y4⟩) hS ?_
  case y4 =>
    obtain ⟨s1, s2, s3⟩ := hw
    clear hS
    go_simp
  refine wpAnyH_take (i := 5) (v := .pointer (some ⟨be, 0, none⟩)) rfl (by kernel_rfl) (by kernel_rfl) (by kernel_rfl) (fun _ _ _ h => h) (Or.inl ⟨by rfl, fun w' hw => ?y5⟩) hS ?_
  case y5 =>
    obtain ⟨s1, s2, s3⟩ := hw
    clear hS
    go_simp
  refine wpAnyH_take (i := 6) (v := .pointer (some ⟨be, 0, none⟩)) rfl (by kernel_rfl) (by kernel_rfl) (by kernel_rfl) (fun _ _ _ h => h) (Or.inl ⟨by rfl, fun w' hw => ?y6⟩) hS ?_
  case y6 =>
    obtain ⟨s1, s2, s3⟩ := hw
    clear hS
    go_simp
  refine wpAnyH_take (i := 7) (v := .pointer (some ⟨bb, 0, none⟩)) rfl (by kernel_rfl) (by kernel_rfl) (by kernel_rfl) (fun _ _ _ h => h) (Or.inl ⟨by rfl, fun w' hw => ?y7⟩) hS ?_
  case y7 =>
    obtain ⟨s1, s2, s3⟩ := hw
    clear hS
    go_simp
  refine wpAnyH_take (i := 8) (v := .pointer (some ⟨bb, 0, none⟩)) rfl (by kernel_rfl) (by kernel_rfl) (by kernel_rfl) (fun _ _ _ h => h) (Or.inl ⟨by rfl, fun w' hw => ?y8⟩) hS ?_
  case y8 =>
    obtain ⟨s1, s2, s3⟩ := hw
    clear hS
    go_simp
  refine wpAnyH_take (i := 9) (v := .pointer (some ⟨bb, 2, none⟩)) rfl (by kernel_rfl) (by kernel_rfl) (by kernel_rfl) (fun _ _ _ h => h) (Or.inl ⟨by rfl, fun w' hw => ?y9⟩) hS ?_
  case y9 =>
    obtain ⟨s1, s2, s3⟩ := hw
    clear hS
    go_simp
  refine wpAnyH_take (i := 11) (v := .pointer (some ⟨be, 0, none⟩)) rfl (by kernel_rfl) (by kernel_rfl) (by kernel_rfl) (fun _ _ _ h => h) (Or.inl ⟨by rfl, fun w' hw => ?y11⟩) hS ?_
  case y11 =>
    obtain ⟨s1, s2, s3⟩ := hw
    clear hS
    go_simp
  refine wpAnyH_take (i := 12) (v := .pointer (some ⟨be, 0, none⟩)) rfl (by kernel_rfl) (by kernel_rfl) (by kernel_rfl) (fun _ _ _ h => h) (Or.inl ⟨by rfl, fun w' hw => ?y12⟩) hS ?_
  case y12 =>
    obtain ⟨s1, s2, s3⟩ := hw
    clear hS
    go_simp
  refine wpAnyH_take (i := 13) (v := .pointer (some ⟨be, 3, none⟩)) rfl (by kernel_rfl) (by kernel_rfl) (by kernel_rfl) (fun _ _ _ h => h) (Or.inl ⟨by rfl, fun w' hw => ?y13⟩) hS ?_
  case y13 =>
    obtain ⟨s1, s2, s3⟩ := hw
    clear hS
    go_simp
  refine wpAnyH_take (i := 14) (v := .int .i64 now) rfl (by kernel_rfl) (by kernel_rfl) (by kernel_rfl) (fun _ _ _ h => h) (Or.inl ⟨by rfl, fun w' hw => ?y14⟩) hS ?_
  case y14 =>
    obtain ⟨s1, s2, s3⟩ := hw
    clear hS
    go_simp
  refine wpAnyH_take (i := 15) (v := .pointer (some ⟨be, 0, none⟩)) rfl (by kernel_rfl) (by kernel_rfl) (by kernel_rfl) (fun _ _ _ h => h) (Or.inl ⟨by rfl, fun w' hw => ?y15⟩) hS ?_
  case y15 =>
    obtain ⟨s1, s2, s3⟩ := hw
    clear hS
    go_simp
  refine wpAnyH_take (i := 16) (v := .pointer (some ⟨be, 0, none⟩)) rfl (by kernel_rfl) (by kernel_rfl) (by kernel_rfl) (fun _ _ _ h => h) (Or.inl ⟨by rfl, fun w' hw => ?y16⟩) hS ?_
  case y16 =>
    obtain ⟨s1, s2, s3⟩ := hw
    clear hS
    go_simp
  refine wpAnyH_take (i := 17) (v := .pointer (some ⟨be, 2, none⟩)) rfl (by kernel_rfl) (by kernel_rfl) (by kernel_rfl) (fun _ _ _ h => h) (Or.inl ⟨by rfl, fun w' hw => ?y17⟩) hS ?_
  case y17 =>
    obtain ⟨s1, s2, s3⟩ := hw
    clear hS
    go_simp
  refine wpAnyH_take (i := 18) (v := .int .i64 i) rfl (by kernel_rfl) (by kernel_rfl) (by kernel_rfl) (fun _ _ _ h => h) (Or.inl ⟨by rfl, fun w' hw => ?y18⟩) hS ?_
  case y18 =>
    obtain ⟨s1, s2, s3⟩ := hw
    clear hS
    go_simp
  refine wpAnyH_take (i := 19) (v := .int .i64 slot) rfl (by kernel_rfl) (by kernel_rfl) (by kernel_rfl) (fun _ _ _ h => h) (Or.inl ⟨by rfl, fun w' hw => ?y19⟩) hS ?_
  case y19 =>
    obtain ⟨s1, s2, s3⟩ := hw
    clear hS
    go_simp
  refine wpAnyH_take (i := 20) (v := .int .i64 fr) rfl (by kernel_rfl) (by kernel_rfl) (by kernel_rfl) (fun _ _ _ h => h) (Or.inl ⟨by rfl, fun w' hw => ?y20⟩) hS ?_
  case y20 =>
    obtain ⟨s1, s2, s3⟩ := hw
    clear hS
    go_simp
  refine wpAnyH_take (i := 21) (v := .int .i64 to) rfl (by kernel_rfl) (by kernel_rfl) (by kernel_rfl) (fun _ _ _ h => h) (Or.inl ⟨by rfl, fun w' hw => ?y21⟩) hS ?_
  case y21 =>
    obtain ⟨s1, s2, s3⟩ := hw
    clear hS
    go_simp
  refine wpAnyH_take (i := 22) (v := .agg #[.int .i64 now, .int .i64 i, .int .i64 slot, .int .i64 fr, .int .i64 to]) rfl (by kernel_rfl) (by kernel_rfl) (by kernel_rfl) (fun _ _ _ h => h) (Or.inl ⟨by rfl, fun w' hw => ?y22⟩) hS ?_
  case y22 =>
    obtain ⟨s1, s2, s3⟩ := hw
    clear hS
    go_simp
  have hB2 : Below W.heap.size W (W.drew.alloc (.cells #[.int .i64 now, .int .i64 i, .int .i64 slot, .int .i64 fr, .int .i64 to] 96)) := (Below.drew (Below.refl _ _)).alloc (by simp) _
  have news := newsAt W.drew (W.drew.alloc (.cells #[.int .i64 now, .int .i64 i, .int .i64 slot, .int .i64 fr, .int .i64 to] 96)) #[.int .i64 now, .int .i64 i, .int .i64 slot, .int .i64 fr, .int .i64 to] 96 W.heap.size (by simp) rfl
  have b2d : W.drew.cell? ⟨bb, 2, none⟩ = some (.slice a shs.length cap) := b2
  have b2e : (W.drew.alloc (.cells #[.int .i64 now, .int .i64 i, .int .i64 slot, .int .i64 fr, .int .i64 to] 96)).cell? ⟨bb, 2, none⟩ = some (.slice a shs.length cap) := (World.cell?_alloc_past _ _ _ (by simpa using hlt)).trans b2
  have hS2 : (W.drew.alloc (.cells #[.int .i64 now, .int .i64 i, .int .i64 slot, .int .i64 fr, .int .i64 to] 96)).cell? ⟨be, 0, none⟩ = some (.pointer (some ⟨bb, 0, none⟩)) ∧ (W.drew.alloc (.cells #[.int .i64 now, .int .i64 i, .int .i64 slot, .int .i64 fr, .int .i64 to] 96)).cell? ⟨be, 2, none⟩ = some (.int .i64 i) ∧ (W.drew.alloc (.cells #[.int .i64 now, .int .i64 i, .int .i64 slot, .int .i64 fr, .int .i64 to] 96)).cell? ⟨be, 3, none⟩ = some (.int .i64 now) :=
    ⟨(World.cell?_alloc_past _ _ _ (by simpa using hle)).trans e0, (World.cell?_alloc_past _ _ _ (by simpa using hle)).trans e2, (World.cell?_alloc_past _ _ _ (by simpa using hle)).trans e3⟩
  refine wpAnyH_ready (rs := [10, 23]) (by kernel_rfl) (by simp) (AllReadyH.cons rfl (fun K hK => ?a4) (AllReadyH.cons rfl (fun K hK => ?a15) AllReadyH.nil))
  case a4 =>
    go_simp
    refine hK.out _ _ hS (fun hS => ?_)
    clear hK K
    refine wpAnyH_ready (rs := [23]) (by kernel_rfl) (by simp) (AllReadyH.cons rfl (fun K hK => ?_) AllReadyH.nil)
    go_simp
    refine hK.out _ _ hS2 (fun hS => ?_)
    clear hK K
    refine wpAnyH_ready (rs := [24]) (by kernel_rfl) (by simp) (AllReadyH.cons rfl (fun K hK => ?_) AllReadyH.nil)
    refine step_append_has _ rfl (.tmp 26) (.tmp 39) 27 rfl (fun k => (U k ∧ ¬ S k) ∨ W.heap.size ≤ k) 96 i0 _ 5 40 Tryz.underlying27 hi hz0 hz1 hz2 rfl (.slice a shs.length cap) shs.length (shc shs) (by simp [Act.eval]) (law _ hB2) ⟨W.heap.size, 0, none⟩ 1 1 [.int .i64 now, .int .i64 i, .int .i64 slot, .int .i64 fr, .int .i64 to] (by simp [Act.eval]) rfl news (by simp [Value.oneCell']) (by omega) (by unfold maxLen; omega) (by omega) (.inr (by simp)) ?_
    intro g cap' w1 hown hgrow hat
    have hb1 : w1.heap[bb]? = some (.cells #[.pointer (some ⟨bm, 0, none⟩), vc, .slice a shs.length cap] 112 (0, 0)) := (hgrow.block bb (by simp; omega) (fun e => nbb e.symm)).trans ((hB2.block bb hlt).trans h.out.bk)
    have hbe : w1.heap[be]? = W.heap[be]? := (hgrow.block be (by simp; omega) (fun e => nbe e.symm)).trans (hB2.block be hle)
    have hS1 : w1.cell? ⟨be, 0, none⟩ = some (.pointer (some ⟨bb, 0, none⟩)) ∧ w1.cell? ⟨be, 2, none⟩ = some (.int .i64 i) ∧ w1.cell? ⟨be, 3, none⟩ = some (.int .i64 now) := ⟨(World.cell?_of_block hbe).trans e0, (World.cell?_of_block hbe).trans e2, (World.cell?_of_block hbe).trans e3⟩
    have kc : w1.cell? ⟨bb, 2, none⟩ = some (.slice a shs.length cap) := by simp [World.cell?, hb1]
    have kf : w1.frozen? ⟨bb, 2, none⟩ = false := by simp [World.frozen?, hb1]
    refine hK.out _ _ hS1 (fun hS => ?_)
    clear hK K
    refine wpAnyH_take (i := 25) (v := .pointer (some ⟨bb, 0, none⟩)) rfl (by kernel_rfl) (by kernel_rfl) (by kernel_rfl) (fun _ _ _ h => h) (Or.inl ⟨by rfl, fun w' hw => ?y25⟩) hS ?_
    case y25 =>
      obtain ⟨s1, s2, s3⟩ := hw
      clear hS
      go_simp
    refine wpAnyH_take (i := 26) (v := .pointer (some ⟨bb, 2, none⟩)) rfl (by kernel_rfl) (by kernel_rfl) (by kernel_rfl) (fun _ _ _ h => h) (Or.inl ⟨by rfl, fun w' hw => ?y26⟩) hS ?_
    case y26 =>
      obtain ⟨s1, s2, s3⟩ := hw
      clear hS
      go_simp
    refine wpAnyH_ready (rs := [27]) (by kernel_rfl) (by simp) (AllReadyH.cons rfl (fun K hK => ?_) AllReadyH.nil)
    go_simp
    refine hK.out _ _ ⟨(World.cell?_setCell_far w1 ⟨bb, 2, none⟩ ⟨be, 0, none⟩ _ hne.symm).trans hS1.1, (World.cell?_setCell_far w1 ⟨bb, 2, none⟩ ⟨be, 2, none⟩ _ hne.symm).trans hS1.2.1, (World.cell?_setCell_far w1 ⟨bb, 2, none⟩ ⟨be, 3, none⟩ _ hne.symm).trans hS1.2.2⟩ (fun _ => wpAnyH_done (by kernel_rfl) ?_ _)
    clear hK K
    obtain ⟨hm, hf⟩ := h.out.shifted (sh := ⟨now, i, slot, fr, to⟩) hB2 rfl hown hgrow
    have hgk : ∀ k, (Value.slice (some ⟨g, 0, none⟩) (shs.length + 1) cap').ownBlock = some k → (Value.slice a shs.length cap).ownBlock = some k ∨ W.heap.size ≤ k := fun k hk => by
      simp only [Value.ownBlock, Option.some.injEq] at hk
      subst hk
      rcases hat with e | e
      · exact .inl e
      · exact .inr (by rw [e]; simp)
    replace hm := Mr.hid hm
    replace hf := Mr.hid hf
    clear law b2 hown hgrow hat kc kf hb1 hbe hS1 hS news
    go_wp2
    go_end0
    refine ⟨rfl, _, ?_, hf.out, hgk⟩
    simpa using hm.out
  case a15 =>
    go_simp
    refine hK.out _ _ hS2 (fun hS => ?_)
    clear hK K
    refine wpAnyH_ready (rs := [10]) (by kernel_rfl) (by simp) (AllReadyH.cons rfl (fun K hK => ?_) AllReadyH.nil)
    go_simp
    refine hK.out _ _ hS2 (fun hS => ?_)
    clear hK K
    refine wpAnyH_ready (rs := [24]) (by kernel_rfl) (by simp) (AllReadyH.cons rfl (fun K hK => ?_) AllReadyH.nil)
    refine step_append_has _ rfl (.tmp 26) (.tmp 39) 27 rfl (fun k => (U k ∧ ¬ S k) ∨ W.heap.size ≤ k) 96 i0 _ 5 40 Tryz.underlying27 hi hz0 hz1 hz2 rfl (.slice a shs.length cap) shs.length (shc shs) (by simp [Act.eval]) (law _ hB2) ⟨W.heap.size, 0, none⟩ 1 1 [.int .i64 now, .int .i64 i, .int .i64 slot, .int .i64 fr, .int .i64 to] (by simp [Act.eval]) rfl news (by simp [Value.oneCell']) (by omega) (by unfold maxLen; omega) (by omega) (.inr (by simp)) ?_
    intro g cap' w1 hown hgrow hat
    have hb1 : w1.heap[bb]? = some (.cells #[.pointer (some ⟨bm, 0, none⟩), vc, .slice a shs.length cap] 112 (0, 0)) := (hgrow.block bb (by simp; omega) (fun e => nbb e.symm)).trans ((hB2.block bb hlt).trans h.out.bk)
    have hbe : w1.heap[be]? = W.heap[be]? := (hgrow.block be (by simp; omega) (fun e => nbe e.symm)).trans (hB2.block be hle)
    have hS1 : w1.cell? ⟨be, 0, none⟩ = some (.pointer (some ⟨bb, 0, none⟩)) ∧ w1.cell? ⟨be, 2, none⟩ = some (.int .i64 i) ∧ w1.cell? ⟨be, 3, none⟩ = some (.int .i64 now) := ⟨(World.cell?_of_block hbe).trans e0, (World.cell?_of_block hbe).trans e2, (World.cell?_of_block hbe).trans e3⟩
    have kc : w1.cell? ⟨bb, 2, none⟩ = some (.slice a shs.length cap) := by simp [World.cell?, hb1]
    have kf : w1.frozen? ⟨bb, 2, none⟩ = false := by simp [World.frozen?, hb1]
    refine hK.out _ _ hS1 (fun hS => ?_)
    clear hK K
    refine wpAnyH_take (i := 25) (v := .pointer (some ⟨bb, 0, none⟩)) rfl (by kernel_rfl) (by kernel_rfl) (by kernel_rfl) (fun _ _ _ h => h) (Or.inl ⟨by rfl, fun w' hw => ?y25⟩) hS ?_
    case y25 =>
      obtain ⟨s1, s2, s3⟩ := hw
      clear hS
      go_simp
    refine wpAnyH_take (i := 26) (v := .pointer (some ⟨bb, 2, none⟩)) rfl (by kernel_rfl) (by kernel_rfl) (by kernel_rfl) (fun _ _ _ h => h) (Or.inl ⟨by rfl, fun w' hw => ?y26⟩) hS ?_
    case y26 =>
      obtain ⟨s1, s2, s3⟩ := hw
      clear hS
      go_simp
    refine wpAnyH_ready (rs := [27]) (by kernel_rfl) (by simp) (AllReadyH.cons rfl (fun K hK => ?_) AllReadyH.nil)
    go_simp
    refine hK.out _ _ ⟨(World.cell?_setCell_far w1 ⟨bb, 2, none⟩ ⟨be, 0, none⟩ _ hne.symm).trans hS1.1, (World.cell?_setCell_far w1 ⟨bb, 2, none⟩ ⟨be, 2, none⟩ _ hne.symm).trans hS1.2.1, (World.cell?_setCell_far w1 ⟨bb, 2, none⟩ ⟨be, 3, none⟩ _ hne.symm).trans hS1.2.2⟩ (fun _ => wpAnyH_done (by kernel_rfl) ?_ _)
    clear hK K
    obtain ⟨hm, hf⟩ := h.out.shifted (sh := ⟨now, i, slot, fr, to⟩) hB2 rfl hown hgrow
    have hgk : ∀ k, (Value.slice (some ⟨g, 0, none⟩) (shs.length + 1) cap').ownBlock = some k → (Value.slice a shs.length cap).ownBlock = some k ∨ W.heap.size ≤ k := fun k hk => by
      simp only [Value.ownBlock, Option.some.injEq] at hk
      subst hk
      rcases hat with e | e
      · exact .inl e
      · exact .inr (by rw [e]; simp)
    replace hm := Mr.hid hm
    replace hf := Mr.hid hf
    clear law b2 hown hgrow hat kc kf hb1 hbe hS1 hS news
    go_wp2
    go_end0
    refine ⟨rfl, _, ?_, hf.out, hgk⟩
    simpa using hm.out
end
section
variable {W0 : World} {U0 S0 X0 : Nat → Prop} {p : Ph} {i : Nat} {now : Int} {T : Nat → Prop} {s : Ss} {W : World} {sp : Bool}
def Ss.shifts (s : Ss) (i : Nat) (now slot fr to : Int) : Ss := { s with shs := s.shs ++ [⟨now, i, slot, fr, to⟩] }
theorem E.shift (h : E W0 U0 S0 X0 p i now T sp s W) (hr : s.shs.length ≤ 100000) (slot fr to : Int) :
    Calls Tryz.prog 67 #[.pointer (some ⟨p.bd, 0, none⟩), .int .i64 slot, .int .i64 fr, .int .i64 to] W fun e w' => e = .returned (.tuple #[]) ∧ E W0 U0 S0 X0 p i now T sp (s.shifts i now slot fr to) w' ∧ Sm W w' T := by
  obtain ⟨vs, ⟨h0, h1⟩, h2, h3, U, S, vl, va, hx, hm, hd, hU, hS0, hU0, hU1, hf⟩ := h
  refine (shift_mac hm hd ⟨hU.1, hU.2.1⟩ hr slot fr to).mono ?_
  rintro e w' ⟨rfl, vs', hm', hf', hvs⟩
  have hs := hf.size
  have hs' := hf'.size
  have hsm : ∀ k, T k → w'.heap[k]? = W.heap[k]? := fun k hk => by
    obtain ⟨x1, x2, x3, x4, x5, x6, x7, x8⟩ := hx k _ ⟨hk, Array.getElem?_eq_getElem (h3 k hk)⟩
    exact hf'.block k (h3 k hk) (fun e => e.elim x5 x8)
  have up : ∀ k, U k → (U k ∨ W.heap.size ≤ k) ∧ k < w'.heap.size := fun k hu => ⟨.inl hu, Nat.lt_of_lt_of_le (hm.ul k hu) hs'⟩
  have nd : ∀ k, ¬ U k → k < W.heap.size → w'.heap[k]? = W.heap[k]? := fun k hn hl => hf'.block k hl (fun e => by
    rcases e with e | e
    · exact hn (e ▸ hm.ubb.1)
    · exact hn (hm.shf.lt k e).1.1)
  refine ⟨rfl, ⟨vs', ⟨h0, fun k hk => ?_⟩, h2, fun k hk => Nat.lt_of_lt_of_le (h3 k hk) hs', _, S, vl, va, ?_, hm', hd.kept (nd _ hU.1 hd.ltd) (nd _ hU.2.1 hd.lte), ⟨?_, ?_, hU.2.2⟩, hS0, ?_, fun k hk => up k (hU1 k hk), ?_⟩, hsm⟩
  · rcases hvs k hk with e | e
    · exact h1 k e
    · exact .inr (by omega)
  · rintro k o ⟨hk1, hk2⟩
    obtain ⟨x1, x2, x3, x4, x5, x6, x7, x8⟩ := hx k _ ⟨hk1, Array.getElem?_eq_getElem (h3 k hk1)⟩
    refine ⟨hk2, up k x2, x3, x4, x5, x6, x7, fun e => ?_⟩
    rcases hvs k e with e | e
    · exact x8 e
    · have := h3 k hk1; omega
  · rintro ⟨h | h, _⟩
    · exact hU.1 h
    · have := hd.ltd; simp only at h this; omega
  · rintro ⟨h | h, _⟩
    · exact hU.2.1 h
    · have := hd.lte; simp only at h this; omega
  · rintro k ⟨h | h, _⟩
    · exact hU0 k h
    · exact .inr (by omega)
  · refine hf.trans (hf'.mono (fun k hk => ?_))
    rcases hk with rfl | hk
    · exact .inl (.inr (.inl h0))
    · rcases h1 k hk with h | h
      · exact .inl (.inr (.inl h))
      · exact .inr h
end
end Go.Proofs.YtkimmfdicohoiaaGreat.Ma
/-
  THE ARENA: freeAddr, spareAddr, hasRoom, State, Shift by their contracts.
-/
namespace Go.Proofs.YtkimmfdicohoiaaGreat.Ar
open Go.RowKit Mr Me Ma Wc Wm
section
variable {W : World} {T : Nat → Prop} {ba gs cs : Nat} {c : Cf} {vca : Value} {vs : List Value} {A : Ao}
theorem Ar.cfg (h : Ar W T ba gs cs c vca vs A) : W.cell? ⟨ba, 0, none⟩ = some (.int .i64 c.a0) ∧ W.cell? ⟨ba, 1, none⟩ = some (.int .i64 c.a1) ∧ W.cell? ⟨ba, 2, none⟩ = some (.int .i64 c.a2) ∧ W.cell? ⟨ba, 3, none⟩ = some (.int .i64 c.a3) ∧ W.cell? ⟨ba, 4, none⟩ = some (.int .i64 c.a4) ∧ W.cell? ⟨ba, 5, none⟩ = some (.int .i64 c.a5) ∧ W.cell? ⟨ba, 6, none⟩ = some (.int .i64 c.a6) := by
  simp [World.cell?, h.blk]
theorem freeAddr_any (h : Ar W T ba gs cs c vca vs A) :
    Calls Tryz.prog 102 #[.pointer (some ⟨ba, 0, none⟩)] W fun e w' => e = .returned (.int .i64 0) ∧ Below W.heap.size W w' := by
  obtain ⟨c0, c1, c2, c3, c4, c5, c6⟩ := h.cfg
  have hok : cfgB c.a0 c.a1 c.a2 c.a3 c.a4 c.a5 c.a6 = true := h.ok
  have C := addr_ok c.a0 c.a1 c.a2 c.a3 c.a4 c.a5 c.a6 1 0 0 W hok (by decide) (by decide) (by simp [inB, items]) (by simp [inB, each])
  have e0 : base c.a1 c.a2 c.a5 c.a6 (1 : Int).toNat + 0 * each c.a2 1 + 0 = 0 := by simp [base]
  rw [e0] at C
  clear h hok e0
  go_enter Tryz.func102, Tryz.ntmps102
  go_wp2_with (go_at_call 126; refine C.mono ?_; clear C; rintro e w' ⟨rfl, hB⟩)
  go_ret
  exact ⟨rfl, hB⟩
theorem spareAddr_any (h : Ar W T ba gs cs c vca vs A) (s : Int) (hs : A.has s) :
    Calls Tryz.prog 104 #[.pointer (some ⟨ba, 0, none⟩), .int .i64 s] W fun e w' => e = .returned (.int .i64 (c.m + s)) ∧ Below W.heap.size W w' := by
  obtain ⟨c0, c1, c2, c3, c4, c5, c6⟩ := h.cfg
  have hok : cfgB c.a0 c.a1 c.a2 c.a3 c.a4 c.a5 c.a6 = true := h.ok
  have h5 := h.five
  unfold Ao.has at hs
  have C := addr_ok c.a0 c.a1 c.a2 c.a3 c.a4 c.a5 c.a6 10 s 0 W hok (by decide) (by decide) (by simp [inB, items]; omega) (by simp [inB, each])
  have e0 : base c.a1 c.a2 c.a5 c.a6 (10 : Int).toNat + s * each c.a2 10 + 0 = c.m + s := by simp [Cf.m, each]
  rw [e0] at C
  clear h hok e0 hs h5
  go_enter Tryz.func104, Tryz.ntmps104
  go_wp2_with (go_at_call 126; refine C.mono ?_; clear C; rintro e w' ⟨rfl, hB⟩)
  go_ret
  exact ⟨rfl, hB⟩
set_option maxRecDepth 100000 in
theorem hasRoom_any (h : Ar W T ba gs cs c vca vs A) (i : Nat) (hi : i < A.ca.length) (K : Nat) (hK : c.a4 = K) :
    Calls Tryz.prog 108 #[.pointer (some ⟨ba, 0, none⟩), .int .i64 (i : Int)] W fun e w' => e = .returned (.bool (decide ((A.cache i).length < K))) ∧ w'.heap = W.heap ∧ Below W.heap.size W w' := by
  obtain ⟨gc, cc, a, n, e, c1, _, hh, _⟩ := h.cache i hi
  have c8 := h.c8
  have c4 := h.c4
  rw [e] at c8
  rw [hK] at c4
  clear h hh
  generalize (A.cache i).length = m at *
  go_enter Tryz.func108, Tryz.ntmps108
  go_wp2
  go_quiet (fail)
  go_wp2
  go_ret
  exact ⟨by simp, rfl, Bx.draws _ _ _⟩
/-- A slot's cells. -/
theorem Ar.slot (h : Ar W T ba gs cs c vca vs A) (x j : Nat) (y y' : Int × Int) (u : Value) (hy : A.sl[x]? = some y) (hj : j < 2) (hu : sla y' = (sla y).set j u) : Ar (W.setCell ⟨gs, x * 2 + j, none⟩ u) T ba gs cs c vca vs { A with sl := A.sl.set x y' } := by
  have hl : (A.sl.set x y').length = A.sl.length := List.length_set
  have hk : ∀ k, k ≠ gs → (W.setCell ⟨gs, x * 2 + j, none⟩ u).heap[k]? = W.heap[k]? := fun k hne => Below.heap_setCell _ _ _ k hne
  have hgo : (Value.slice (some ⟨gs, 0, none⟩) A.sl.length cs).ownBlock = some gs := rfl
  have n1 : ba ≠ gs := fun e => not_row h.blk h.slots (by decide) (e ▸ hgo)
  refine ⟨?_, ?_, h.caches.setCell _ _ (fun e => has_ne h.caches h.slots (by decide) gs e hgo), fun i v l hv hl' => (h.each i v l hv hl').setCell _ _ (fun e => has_ne (h.each i v l hv hl') h.slots (by decide) gs e hgo), h.sep, h.ta, h.ok, by simp only [hl]; exact h.five⟩
  · simp only [hl]
    exact (hk ba n1).trans h.blk
  · simp only [hl]
    have := has_put h.slots (x * 2 + j) u
    rw [flat_set sla_len A.sl x j y y' u hy hj hu] at this
    exact this
theorem Ar.slotAt (h : Ar W T ba gs cs c vca vs A) (x j : Nat) (y : Int × Int) (u : Value) (hy : A.sl[x]? = some y) (hj : (sla y)[j]? = some u) : W.cell? ⟨gs, x * 2 + j, none⟩ = some u ∧ W.frozen? ⟨gs, x * 2 + j, none⟩ = false := by
  have hj2 : j < 2 := by have := (List.getElem?_eq_some_iff.1 hj).1; rw [sla_len] at this; exact this
  exact ⟨h.slots.cells (g := gs) rfl _ _ ((flat_get sla_len A.sl x j y hy hj2).trans hj), h.slots.frozen (g := gs) rfl _⟩
theorem Ar.tgs (h : Ar W T ba gs cs c vca vs A) : T gs := (h.slots.lt gs rfl).1
end
section
variable {W0 : World} {U0 S0 X0 : Nat → Prop} {p : Ph} {i : Nat} {now : Int} {T : Nat → Prop} {s : Ss} {W : World} {sp : Bool} {ba gs cs : Nat} {c : Cf} {vca : Value} {vs : List Value} {A : Ao}
set_option maxRecDepth 100000 in
set_option maxHeartbeats 1000000 in
theorem arShift (hE : E W0 U0 S0 X0 p i now T sp s W) (hA : Ar W T ba gs cs c vca vs A) (hr : s.shs.length ≤ 100000) (slot to : Int) (hs : A.has slot) (ht : 0 ≤ to ∧ to ≤ 5) :
    Calls Tryz.prog 22 #[.pointer (some ⟨ba, 0, none⟩), .pointer (some ⟨p.bd, 0, none⟩), .int .i64 slot, .int .i64 to] W fun e w' => e = .returned (.tuple #[]) ∧ E W0 U0 S0 X0 p i now T sp (s.shifts i now slot (A.st slot).1 to) w' ∧ Ar w' T ba gs cs c vca vs (A.put slot to i) ∧ ∀ k, T k → k ≠ gs → w'.heap[k]? = W.heap[k]? := by
  have C := hasSlot_any hA slot
  rw [decide_eq_true hs] at C
  obtain ⟨x, rfl⟩ : ∃ x : Nat, slot = x := ⟨slot.toNat, by have := hs.1; omega⟩
  have hx : x < A.sl.length := by have := hs.2; omega
  obtain ⟨y, hy⟩ : ∃ y, A.sl[x]? = some y := ⟨_, List.getElem?_eq_getElem hx⟩
  have hst : A.st (x : Int) = y := by simp [Ao.st, hy]
  rw [hst]
  have hput : A.put (x : Int) to i = { A with sl := A.sl.set x (to, holder to i) } := by simp [Ao.put]
  rw [hput]
  have c7 := hA.c7
  obtain ⟨k0, k0z⟩ := hA.slotAt x 0 y _ hy rfl
  rw [Nat.add_zero] at k0 k0z
  have L := E.shift hE hr (x : Int) y.1 to
  have hlt : decide ((x : Int) < (A.sl.length : Int)) = true := by simp; omega
  have hx' : (x : Int) < (A.sl.length : Int) := by omega
  have d1 : decide (to < 0) = false := by simp; omega
  have d2 : decide (5 < to) = false := by simp; omega
  have nxt := fun (w1 : World) (h1 : E W0 U0 S0 X0 p i now T sp (s.shifts i now x y.1 to) w1) (h2 : Sm W w1 T) => (show ∃ hA1 : Ar w1 T ba gs cs c vca vs A, w1.cell? ⟨gs, x * 2, none⟩ = some (.int .i64 y.1) ∧ w1.frozen? ⟨gs, x * 2, none⟩ = false ∧ (w1.setCell ⟨gs, x * 2, none⟩ (.int .i64 to)).cell? ⟨gs, x * 2 + 1, none⟩ = some (.int .i64 y.2) ∧ (w1.setCell ⟨gs, x * 2, none⟩ (.int .i64 to)).frozen? ⟨gs, x * 2 + 1, none⟩ = false ∧ Dk (w1.setCell ⟨gs, x * 2, none⟩ (.int .i64 to)) p.bd p.be p.bb ⟨p.gt, i * 5, none⟩ i now sp ∧ ∀ z : Int, E W0 U0 S0 X0 p i now T sp (s.shifts i now x y.1 to) ((w1.setCell ⟨gs, x * 2, none⟩ (.int .i64 to)).setCell ⟨gs, x * 2 + 1, none⟩ (.int .i64 z)) ∧ Ar ((w1.setCell ⟨gs, x * 2, none⟩ (.int .i64 to)).setCell ⟨gs, x * 2 + 1, none⟩ (.int .i64 z)) T ba gs cs c vca vs { A with sl := A.sl.set x (to, z) } ∧ ∀ z' : Int, E W0 U0 S0 X0 p i now T sp (s.shifts i now x y.1 to) (((w1.setCell ⟨gs, x * 2, none⟩ (.int .i64 to)).setCell ⟨gs, x * 2 + 1, none⟩ (.int .i64 z)).setCell ⟨gs, x * 2 + 1, none⟩ (.int .i64 z')) ∧ Ar (((w1.setCell ⟨gs, x * 2, none⟩ (.int .i64 to)).setCell ⟨gs, x * 2 + 1, none⟩ (.int .i64 z)).setCell ⟨gs, x * 2 + 1, none⟩ (.int .i64 z')) T ba gs cs c vca vs { A with sl := A.sl.set x (to, z') } from by
    have q0 := hA.kept h2 (fun _ h => h)
    have q1 := q0.slot x 0 y (to, y.2) (.int .i64 to) hy (by decide) rfl
    have hy1 : ({ A with sl := A.sl.set x (to, y.2) } : Ao).sl[x]? = some (to, y.2) := List.getElem?_set_self hx
    obtain ⟨r1, r1z⟩ := q1.slotAt x 1 _ _ hy1 rfl
    have E1 := h1.set (k := gs) (j := x * 2) (v := .int .i64 to) hA.tgs
    refine ⟨q0, (q0.slotAt x 0 y _ hy rfl).1, (q0.slotAt x 0 y _ hy rfl).2, r1, r1z, E1.dk, fun z => ?_⟩
    have q2 := q1.slot x 1 (to, y.2) (to, z) (.int .i64 z) hy1 (by decide) rfl
    simp only [List.set_set] at q2
    have E2 := E1.set (k := gs) (j := x * 2 + 1) (v := .int .i64 z) hA.tgs
    refine ⟨E2, q2, fun z' => ⟨E2.set hA.tgs, ?_⟩⟩
    have q3 := q2.slot x 1 (to, z) (to, z') (.int .i64 z') (List.getElem?_set_self hx) (by decide) rfl
    simp only [List.set_set] at q3
    exact q3)
  have fr := fun (w1 : World) (h2 : Sm W w1 T) (a b : Value) k (hk : T k) (hne : k ≠ gs) => (show ((w1.setCell ⟨gs, x * 2, none⟩ a).setCell ⟨gs, x * 2 + 1, none⟩ b).heap[k]? = W.heap[k]? from ((Below.heap_setCell _ _ _ k hne).trans (Below.heap_setCell _ _ _ k hne)).trans (h2 k hk))
  have fr3 := fun (w1 : World) (h2 : Sm W w1 T) (a b d : Value) k (hk : T k) (hne : k ≠ gs) => (show (((w1.setCell ⟨gs, x * 2, none⟩ a).setCell ⟨gs, x * 2 + 1, none⟩ b).setCell ⟨gs, x * 2 + 1, none⟩ d).heap[k]? = W.heap[k]? from (Below.heap_setCell _ _ _ k hne).trans (fr w1 h2 a b k hk hne))
  clear hE hA hput hst
  by_cases hf : to = 0 ∨ to = 3
  · have hh : holder to i = -1 := by unfold holder; rw [if_pos hf]
    rw [hh]
    rcases hf with rfl | rfl
    all_goals clear hh ht d1 d2
    · generalize (s.shifts i now x y.1 0) = s1 at *
      go_enter Tryz.func22, Tryz.ntmps22
      go_wp2_with (first | (go_at_call 66; refine C.mono ?_; clear C; rintro e w' ⟨rfl, hw⟩; obtain rfl := hw.symm) | (go_at_call 67; refine L.mono ?_; clear L; rintro e w1 ⟨rfl, h1, h2⟩; obtain ⟨_, g0, g0z, g1, g1z, gd, fin⟩ := nxt w1 h1 h2; clear nxt; replace h1 := Mr.hid h1; have Th := thread_desk gd; replace h2 := Mr.hid h2) | (go_at_call 68; refine Th.mono ?_; clear Th; rintro e w' ⟨rfl, hw⟩; obtain rfl := hw.symm))
      go_end0
      exact ⟨rfl, ((fin _).2.2 _).1, ((fin _).2.2 _).2, fr3 _ h2.out _ _ _⟩
    · generalize (s.shifts i now x y.1 3) = s1 at *
      go_enter Tryz.func22, Tryz.ntmps22
      go_wp2_with (first | (go_at_call 66; refine C.mono ?_; clear C; rintro e w' ⟨rfl, hw⟩; obtain rfl := hw.symm) | (go_at_call 67; refine L.mono ?_; clear L; rintro e w1 ⟨rfl, h1, h2⟩; obtain ⟨_, g0, g0z, g1, g1z, gd, fin⟩ := nxt w1 h1 h2; clear nxt; replace h1 := Mr.hid h1; have Th := thread_desk gd; replace h2 := Mr.hid h2) | (go_at_call 68; refine Th.mono ?_; clear Th; rintro e w' ⟨rfl, hw⟩; obtain rfl := hw.symm))
      go_end0
      exact ⟨rfl, ((fin _).2.2 _).1, ((fin _).2.2 _).2, fr3 _ h2.out _ _ _⟩
  · have hh : holder to i = i := by unfold holder; rw [if_neg hf]
    rw [hh]
    have d3 : (to == 0) = false := by simp; omega
    have d4 : (to == 3) = false := by simp; omega
    generalize (s.shifts i now x y.1 to) = s1 at *
    go_enter Tryz.func22, Tryz.ntmps22
    go_wp2_with (first | (go_at_call 66; refine C.mono ?_; clear C; rintro e w' ⟨rfl, hw⟩; obtain rfl := hw.symm) | (go_at_call 67; refine L.mono ?_; clear L; rintro e w1 ⟨rfl, h1, h2⟩; obtain ⟨_, g0, g0z, g1, g1z, gd, fin⟩ := nxt w1 h1 h2; clear nxt; replace h1 := Mr.hid h1; have Th := thread_desk gd; replace h2 := Mr.hid h2) | (go_at_call 68; refine Th.mono ?_; clear Th; rintro e w' ⟨rfl, hw⟩; obtain rfl := hw.symm))
    go_end0
    exact ⟨rfl, (fin _).1, (fin _).2.1, fr _ h2.out _ _⟩
end
end Go.Proofs.YtkimmfdicohoiaaGreat.Ar
