import Derived.Test.YtjpgjhjnneeliaaGreatJ31
import Derived.Test.YtjpgjhjnneeliaaGreatJ32
import Derived.Test.YtjpgjhjnneeliaaGreatJ30
/-
  What the laws of layer 4 keep: the configuration's box, the run's box, the run's rows.
-/
namespace Go.Proofs.YtjpgjhjnneeliaaGreat.Ar
open Go.RowKit Go.Shelf Mr Me Ma Wc Wm Wr
structure Ka (w W : World) (c : Cf) (B : Nat) (v1 v2 v3 v4 : Value) (P : Pa) : Prop where
  bel : Below w.heap.size w W
  s0 : W.heap[w.heap.size]? = some (cfO c)
  lt : w.heap.size < B
  r0 : W.heap[B]? = some (.cells #[v1, v2, v3, v4] 32 (0, 0))
  h1 : Has W (fun k => w.heap.size < k ∧ k < B) 42 9 v1 P.cls.length (clc P.cls)
  h2 : Has W (fun k => w.heap.size < k ∧ k < B) 48 7 v2 P.lg.length (lgc P.lg)
  h3 : Has W (fun k => w.heap.size < k ∧ k < B) 66 5 v3 P.shs.length (shc P.shs)
  h4 : Has W (fun k => w.heap.size < k ∧ k < B) 44 1 v4 P.ws.length (wrd P.ws)
section
variable {w W W' : World} {c : Cf} {B : Nat} {v1 v2 v3 v4 : Value} {P : Pa}
theorem Ka.below (h : Ka w W c B v1 v2 v3 v4 P) (hB : Below W.heap.size W W') : Ka w W' c B v1 v2 v3 v4 P :=
  have g : ∀ k o, W.heap[k]? = some o → W'.heap[k]? = some o := fun k _ hk => (hB.block k (Array.getElem?_eq_some_iff.1 hk).1).trans hk
  ⟨h.bel.trans (hB.mono h.bel.size), g _ _ h.s0, h.lt, g _ _ h.r0, h.h1.below hB, h.h2.below hB, h.h3.below hB, h.h4.below hB⟩
/-- A write above B. -/
theorem Ka.set (h : Ka w W c B v1 v2 v3 v4 P) (p : Addr) (hp : B < p.block) (u : Value) : Ka w (W.setCell p u) c B v1 v2 v3 v4 P :=
  have hlt := h.lt
  have hh : ∀ {e size m : Nat} {v : Value} {xs : List Value}, Has W (fun k => w.heap.size < k ∧ k < B) e size v m xs → Has (W.setCell p u) (fun k => w.heap.size < k ∧ k < B) e size v m xs := fun hv => hv.setCell p u (fun e => by have := (hv.lt _ e).1; omega)
  ⟨h.bel.setCell (p := p) (by omega) u, (Below.heap_setCell _ _ _ _ (by omega)).trans h.s0, hlt, (Below.heap_setCell _ _ _ _ (by omega)).trans h.r0, hh h.h1, hh h.h2, hh h.h3, hh h.h4⟩
theorem Ka.cells (h : Ka w W c B v1 v2 v3 v4 P) : (W.cell? ⟨w.heap.size, 0, none⟩ = some (.int .i64 c.a0) ∧ W.cell? ⟨w.heap.size, 1, none⟩ = some (.int .i64 c.a1) ∧ W.cell? ⟨w.heap.size, 2, none⟩ = some (.int .i64 c.a2) ∧ W.cell? ⟨w.heap.size, 3, none⟩ = some (.int .i64 c.a3) ∧ W.cell? ⟨w.heap.size, 4, none⟩ = some (.int .i64 c.a4) ∧ W.cell? ⟨w.heap.size, 5, none⟩ = some (.int .i64 c.a5) ∧ W.cell? ⟨w.heap.size, 6, none⟩ = some (.int .i64 c.a6)) ∧ W.cell? ⟨B, 0, none⟩ = some v1 ∧ W.cell? ⟨B, 1, none⟩ = some v2 ∧ W.cell? ⟨B, 2, none⟩ = some v3 ∧ W.cell? ⟨B, 3, none⟩ = some v4 := by
  have h0 := h.s0
  have hr := h.r0
  simp [cfO] at h0
  simp [World.cell?, h0, hr]
theorem Ka.size (h : Ka w W c B v1 v2 v3 v4 P) : B < W.heap.size := (Array.getElem?_eq_some_iff.1 h.r0).1
/-- The run's box is made behind the call. -/
theorem ka_open {W1 : World} (hs : W.heap[w.heap.size]? = some (cfO c)) (hB : Below w.heap.size w W) (hB1 : Below W.heap.size W W1)
    (h1 : Has W1 (fun k => W.heap.size ≤ k) 42 9 v1 P.cls.length (clc P.cls)) (h2 : Has W1 (fun k => W.heap.size ≤ k) 48 7 v2 P.lg.length (lgc P.lg)) (h3 : Has W1 (fun k => W.heap.size ≤ k) 66 5 v3 P.shs.length (shc P.shs)) (h4 : Has W1 (fun k => W.heap.size ≤ k) 44 1 v4 P.ws.length (wrd P.ws)) :
    Ka w (W1.alloc (.cells #[v1, v2, v3, v4] 32)) c W1.heap.size v1 v2 v3 v4 P := by
  have hl : w.heap.size < W.heap.size := (Array.getElem?_eq_some_iff.1 hs).1
  have hl1 := hB1.size
  have hBa := (Below.refl W1.heap.size W1).alloc (Nat.le_refl _) (.cells #[v1, v2, v3, v4] 32)
  have hh : ∀ {e size m : Nat} {v : Value} {xs : List Value}, Has W1 (fun k => W.heap.size ≤ k) e size v m xs → Has (W1.alloc (.cells #[v1, v2, v3, v4] 32)) (fun k => w.heap.size < k ∧ k < W1.heap.size) e size v m xs := fun hv =>
    hv.kept (fun k hk => hBa.block k (hv.lt k hk).2) (fun k hk => ⟨by have := (hv.lt k hk).1; omega, (hv.lt k hk).2⟩)
  exact ⟨(hB.trans (hB1.mono (by omega))).trans (hBa.mono (by omega)), (hBa.block _ (by omega)).trans ((hB1.block _ hl).trans hs), by omega, heap_alloc_new W1 _, hh h1, hh h2, hh h3, hh h4⟩
end
/-- An access's seven cells. -/
theorem ac_cells {W : World} {S : Nat → Prop} {g n cap : Nat} {l : List Acc} (h : Has W S 48 7 (.slice (some ⟨g, 0, none⟩) n cap) n (lgc l)) {j : Nat} {a : Acc} (ha : l[j]? = some a) :
    W.cell? ⟨g, j * 7, none⟩ = some (.int .i64 a.mv) ∧ W.cell? ⟨g, j * 7 + 1, none⟩ = some (.int .i64 a.th) ∧ W.cell? ⟨g, j * 7 + 2, none⟩ = some (.int .i64 a.kd) ∧ W.cell? ⟨g, j * 7 + 3, none⟩ = some (.int .i64 a.ad) ∧ W.cell? ⟨g, j * 7 + 4, none⟩ = some (.int .u64 a.old) ∧ W.cell? ⟨g, j * 7 + 5, none⟩ = some (.int .u64 a.new) ∧ W.cell? ⟨g, j * 7 + 6, none⟩ = some (.int .u64 a.saw) := by
  have hce : ∀ t (_ : t < 7) u, a.cells[t]? = some u → W.cell? ⟨g, j * 7 + t, none⟩ = some u := fun t ht u hu => h.cells (g := g) rfl (j * 7 + t) u (by rw [lgc, flat_get (f := Acc.cells) (m := 7) (fun _ => rfl) l j t a ha ht]; exact hu)
  exact ⟨hce 0 (by decide) _ rfl, hce 1 (by decide) _ rfl, hce 2 (by decide) _ rfl, hce 3 (by decide) _ rfl, hce 4 (by decide) _ rfl, hce 5 (by decide) _ rfl, hce 6 (by decide) _ rfl⟩
theorem cl_cells {W : World} {S : Nat → Prop} {g n cap : Nat} {l : List Cl} (h : Has W S 42 9 (.slice (some ⟨g, 0, none⟩) n cap) n (clc l)) {j : Nat} {cl : Cl} (hcl : l[j]? = some cl) :
    W.cell? ⟨g, j * 9, none⟩ = some (.int .i64 cl.th) ∧ W.cell? ⟨g, j * 9 + 1, none⟩ = some (.int .i64 cl.op) ∧ W.cell? ⟨g, j * 9 + 2, none⟩ = some (.int .i64 cl.arg) ∧ W.cell? ⟨g, j * 9 + 3, none⟩ = some (.int .i64 cl.data) ∧ W.cell? ⟨g, j * 9 + 4, none⟩ = some (.int .i64 cl.beg) ∧ W.cell? ⟨g, j * 9 + 5, none⟩ = some (.int .i64 cl.fin) ∧ W.cell? ⟨g, j * 9 + 6, none⟩ = some (.int .i64 cl.pt) ∧ W.cell? ⟨g, j * 9 + 7, none⟩ = some (.int .i64 cl.ak) ∧ W.cell? ⟨g, j * 9 + 8, none⟩ = some (.int .i64 cl.av) := by
  have hce : ∀ t (_ : t < 9) u, cl.cells[t]? = some u → W.cell? ⟨g, j * 9 + t, none⟩ = some u := fun t ht u hu => h.cells (g := g) rfl (j * 9 + t) u (by rw [clc, flat_get (f := Cl.cells) (m := 9) (fun _ => rfl) l j t cl hcl ht]; exact hu)
  exact ⟨hce 0 (by decide) _ rfl, hce 1 (by decide) _ rfl, hce 2 (by decide) _ rfl, hce 3 (by decide) _ rfl, hce 4 (by decide) _ rfl, hce 5 (by decide) _ rfl, hce 6 (by decide) _ rfl, hce 7 (by decide) _ rfl, hce 8 (by decide) _ rfl⟩
def its (l : List Int) : List Value := l.map (Value.int .i64)
theorem its_get (l : List Int) (i : Nat) (b : Int) (h : l[i]? = some b) : (its l)[i]? = some (.int .i64 b) := by simp [its, h]
theorem its_set (l : List Int) (i : Nat) (b : Int) : (its l).set i (.int .i64 b) = its (l.set i b) := by simp [its, List.map_set]
theorem info_i : (Tryz.prog.info? 3).map (fun i => (i.zero, i.size, i.bytes)) = some (some (.int .i64 0), 1, 8) := by kernel_rfl
theorem make_its (W : World) (n : Nat) (hn : n ≤ 100000) :
    (Instr.makeSlice 45 (.int .i64 (n : Int)) (.int .i64 (n : Int))).run Tryz.prog W = .ok (.slice (some ⟨W.heap.size, 0, none⟩) n n) (W.alloc (.cells (madeCells #[.int .i64 0] n) 3)) := by
  obtain ⟨i0, hi, hz0, hz1, hz2⟩ := info_parts info_i
  have h := run_make (P := Tryz.prog) W 45 3 i0 (.int .i64 0) Tryz.underlying45 hi hz0 .i64 .i64 n n (by omega) (Int.le_refl _) (by rw [hz2]; omega) (by omega)
  rw [hz1, Nat.mul_one] at h
  simpa [Value.cells] using h
theorem made_its (W : World) (S : Nat → Prop) (n : Nat) (hn : n ≤ 100000) (hS : S W.heap.size) : Has (W.alloc (.cells (madeCells #[.int .i64 0] n) 3)) S 3 1 (.slice (some ⟨W.heap.size, 0, none⟩) n n) n (its (List.replicate n 0)) := by
  refine ⟨by simp [its], .inr ⟨_, n, _, rfl, hS, heap_alloc_new W _, Nat.le_refl _, by unfold maxLen; omega, by rw [size_madeCells]; omega, ?_⟩⟩
  apply List.ext_getElem?
  intro j
  rw [Nat.mul_one, List.getElem?_take]
  by_cases hj : j < n
  · rw [if_pos hj]
    simp [its, madeCells, hj, Nat.mod_one]
  · rw [if_neg hj, List.getElem?_eq_none (by simp [its]; omega)]
end Go.Proofs.YtjpgjhjnneeliaaGreat.Ar
/-
  The pure part of ArenaSwaps: what a log tells of the swaps of Free.
-/
namespace Go.Proofs.YtjpgjhjnneeliaaGreat.Ar
open Go.RowKit Go.Shelf Mr Me Ma Wc Wm Wr
/-- What the law's loop has come to. -/
structure Sws where
  tag : Int
  last : Int
  ld : List Int
  ix : Int
  ok : Bool
def Sws.step (nt : Nat) (s : Sws) (a : Acc) : Sws :=
  if ¬ (0 ≤ a.th ∧ a.th < nt) then { s with ix := s.ix + 1, ok := false }
  else if a.ad ≠ 0 then { s with ix := s.ix + 1 }
  else if a.kd = 1 then { s with ld := s.ld.set a.th.toNat s.ix, ix := s.ix + 1, ok := s.ok && decide (a.saw / 4294967296 = s.tag) }
  else if a.kd = 3 then
    if a.saw = a.old then { s with tag := s.tag + 1, last := s.ix, ix := s.ix + 1, ok := s.ok && decide (a.new / 4294967296 = s.tag + 1) }
    else { s with ix := s.ix + 1, ok := s.ok && decide (¬ s.last < s.ld[a.th.toNat]?.getD 0) }
  else { s with ix := s.ix + 1, ok := false }
def sws (nt : Nat) (l : List Acc) : Sws := l.foldl (Sws.step nt) ⟨0, -1, List.replicate nt 0, 0, true⟩
theorem sws_snoc (nt : Nat) (l : List Acc) (a : Acc) : sws nt (l ++ [a]) = (sws nt l).step nt a := by simp [sws]
/-- What one step has done to the log and to Free. -/
inductive Lw (P : Pa) (i : Nat) (fr : Bool) (k : Pk) (r : Pa × Pk × Bool) : Prop where
  | none (hl : r.1.lg = P.lg) (hw : r.1.word 0 = P.word 0) (he : r.2.2 = true)
  | load (a : Acc) (hl : r.1.lg = P.lg ++ [a]) (ht : a.th = i) (ha : a.ad = 0) (hk : a.kd = 1) (hs : a.saw = P.word 0) (hw : r.1.word 0 = P.word 0) (hh : r.2.1.hd = P.word 0)
  | far (a : Acc) (hl : r.1.lg = P.lg ++ [a]) (ht : a.th = i) (ha : a.ad ≠ 0) (hw : r.1.word 0 = P.word 0) (hh : r.2.1.hd = k.hd) (hf : fr = false) (hn : k.nx ≠ 5)
  | hit (a : Acc) (hl : r.1.lg = P.lg ++ [a]) (ht : a.th = i) (ha : a.ad = 0) (hk : a.kd = 3) (hs : a.saw = a.old) (hx : a.new / 4294967296 = tag P + 1) (hw : r.1.word 0 = a.new) (he : r.2.2 = true ∨ r.2.1.nx = 5)
  | miss (a : Acc) (hl : r.1.lg = P.lg ++ [a]) (ht : a.th = i) (ha : a.ad = 0) (hk : a.kd = 3) (hs : a.saw ≠ a.old) (hw : r.1.word 0 = P.word 0) (hd : k.hd ≠ P.word 0) (he : r.2.1.nx = 5) (hf : fr = false) (hn : k.nx ≠ 5)
section
variable {P : Pa} {b i : Nat}
theorem word0_set (P : Pa) (ad : Nat) (x : Int) (h : 0 < ad) (l : List Acc) : ({ P with ws := P.ws.set ad x, lg := l } : Pa).word 0 = P.word 0 := by
  simp only [Pa.word, List.getElem?_set]
  rw [if_neg (by omega)]
theorem word0_hit (P : Pa) (x : Int) (h : 0 < P.ws.length) (l : List Acc) : ({ P with ws := P.ws.set 0 x, lg := l } : Pa).word 0 = x := by
  simp [Pa.word, h]
theorem newtag (h : Inv P b) {s : Int} (hs : -1 ≤ s) (hs' : s ≤ 2147483646) : headBehind (P.word 0) s / 4294967296 = tag P + 1 := by
  have h1 := h.w0
  have h2 := h.bd
  have h3 := h.ns
  have h4 := (h.word 0).1
  unfold headBehind tagOf
  rw [if_pos ⟨hs, hs'⟩, if_pos (by omega)]
  have : 0 ≤ P.word 0 / 4294967296 := by omega
  unfold tag at *
  rw [Int.emod_eq_of_lt (by omega) (by omega)]
  omega
theorem nextOf_in (w : Int) : -1 ≤ nextOf w ∧ nextOf w ≤ 2147483646 := by
  unfold nextOf
  split <;> omega
theorem take_log (h : Inv P b) {now : Int} {k : Pk} : Lw P i false k (P.stepP i now k .take) ∨ k.nx = 5 ∧ Lw P i true k (P.stepP i now k .take) := by
  have hm := h.m0
  have hml := h.ml
  simp only [Pa.stepP]
  split
  · rename_i hn
    refine .inr ⟨hn, ?_⟩
    split
    · exact .load _ rfl rfl rfl rfl rfl rfl rfl
    · exact .load _ rfl rfl rfl rfl rfl rfl rfl
  · rename_i hn
    refine .inl ?_
    split
    · exact .far _ rfl rfl (by show ((P.spare k.sl : Nat) : Int) ≠ 0; unfold Pa.spare; omega) rfl rfl rfl hn
    · split
      · rename_i hw
        refine .hit _ rfl rfl rfl rfl rfl ?_ (word0_hit P _ (by omega) []) (.inl rfl)
        show headBehind k.hd _ / _ = _
        rw [← hw]
        exact newtag h (nextOf_in _).1 (nextOf_in _).2
      · rename_i hw
        exact .miss _ rfl rfl rfl rfl hw rfl (fun e => hw e.symm) rfl rfl hn
theorem Lw.any {P : Pa} {i : Nat} {fr : Bool} {k : Pk} {r : Pa × Pk × Bool} (h : Lw P i true k r) : Lw P i fr k r := by
  cases h with
  | none hl hw he => exact .none hl hw he
  | load a hl ht ha hk hs hw hh => exact .load a hl ht ha hk hs hw hh
  | far a hl ht ha hw hh hf hn => cases hf
  | hit a hl ht ha hk hs hx hw he => exact .hit a hl ht ha hk hs hx hw he
  | miss a hl ht ha hk hs hw hd he hf hn => cases hf
theorem giv_log (h : Inv P b) {now : Int} {k : Pk} {fl : Bool} (hs : P.A.has k.sl) : Lw P i false k (givP P i now k fl) ∨ k.nx = 5 ∧ Lw P i true k (givP P i now k fl) := by
  have hm := h.m0
  have hml := h.ml
  have hns := h.ns
  have hs2 := hs.2
  have hs1 := hs.1
  unfold givP
  split
  · rename_i hn
    exact .inr ⟨hn, .load _ rfl rfl rfl rfl rfl rfl rfl⟩
  · rename_i hn
    refine .inl ?_
    split
    · exact .far _ rfl rfl (by show ((P.spare k.sl : Nat) : Int) ≠ 0; unfold Pa.spare; omega) (word0_set P _ _ (by unfold Pa.spare; omega) _) rfl rfl hn
    · split
      · rename_i hw
        have hx : headBehind k.hd k.sl / 4294967296 = tag P + 1 := by rw [← hw]; exact newtag h (by omega) (by omega)
        have hw0 := word0_hit P (headBehind k.hd k.sl) (by omega) (P.lg ++ [⟨now, i, 3, 0, k.hd, headBehind k.hd k.sl, k.hd⟩])
        cases fl with
        | false => exact .hit _ rfl rfl rfl rfl rfl hx hw0 (.inl rfl)
        | true =>
          simp only [if_true, Pa.next]
          split
          · exact .hit _ rfl rfl rfl rfl rfl hx hw0 (.inl rfl)
          · exact .hit _ rfl rfl rfl rfl rfl hx hw0 (.inr rfl)
      · rename_i hw
        exact .miss _ rfl rfl rfl rfl hw rfl (fun e => hw e.symm) rfl rfl hn
theorem step_log (h : Inv P b) {now : Int} {kd : Kd} {k : Pk} (hT : Tok P i false kd k) : Lw P i false k (P.stepP i now k kd) ∨ k.nx = 5 ∧ Lw P i true k (P.stepP i now k kd) := by
  cases kd with
  | take => exact take_log h
  | give => rw [stepP_give]; exact giv_log h hT.1
  | flush => rw [stepP_flush]; exact giv_log h (by simp only [Tok, Bool.false_eq_true, if_false] at hT; exact hT.1)
theorem Lw.load5 {P : Pa} {i : Nat} {k k' : Pk} {r : Pa × Pk × Bool} (h : Lw P i true k r) : Lw P i true k' r := by
  cases h with
  | none hl hw he => exact .none hl hw he
  | load a hl ht ha hk hs hw hh => exact .load a hl ht ha hk hs hw hh
  | far a hl ht ha hw hh hf hn => cases hf
  | hit a hl ht ha hk hs hx hw he => exact .hit a hl ht ha hk hs hx hw he
  | miss a hl ht ha hk hs hw hd he hf hn => cases hf
theorem ready_nx {now : Int} {kd : Kd} {k : Pk} (he : (P.ready i now k kd).2.2 = false) : (P.ready i now k kd).2.1.nx = 5 := by
  cases kd <;> simp only [Pa.ready] at he ⊢ <;> split at he <;> rename_i hc <;> first | (simp at he; done) | (simp [hc])
theorem ready_log {now : Int} {kd : Kd} {k : Pk} : (P.ready i now k kd).1.lg = P.lg ∧ (P.ready i now k kd).1.word 0 = P.word 0 := by
  cases kd <;> simp only [Pa.ready] <;> split <;> exact ⟨rfl, rfl⟩
theorem work_log (h : Inv P b) (hi : i < P.pts.length) {now : Int} {fr : Bool} {kd : Kd} {k : Pk} (hT : Tok P i fr kd k) : Lw P i fr k (P.work i now fr kd k) := by
  unfold Pa.work
  cases fr with
  | false =>
    rw [if_neg (by decide)]
    rcases step_log (now := now) h hT with r | ⟨_, r⟩
    · exact r
    · exact r.any
  | true =>
    rw [if_pos rfl]
    cases he : (P.ready i now k kd).2.2 with
    | true =>
      simp only [he, if_true]
      exact .none ready_log.1 ready_log.2 he
    | false =>
      simp only [he, Bool.false_eq_true, if_false]
      obtain ⟨e1, e2⟩ := ready_no h hi hT he
      have e3 := ready_nx he
      rw [e1]
      rcases step_log (now := now) h e2 with r | ⟨_, r⟩
      · cases r with
        | none hl hw he => exact .none hl hw he
        | load a hl ht ha hk hs hw hh => exact .load a hl ht ha hk hs hw hh
        | far a hl ht ha hw hh hf hn => exact absurd e3 hn
        | hit a hl ht ha hk hs hx hw he => exact .hit a hl ht ha hk hs hx hw he
        | miss a hl ht ha hk hs hw hd he hf hn => exact absurd e3 hn
      · exact r.load5
/-- What holds of the log behind every move. -/
structure Sw (nt : Nat) (P : Pa) : Prop where
  ok : (sws nt P.lg).ok = true
  tg : (sws nt P.lg).tag = tag P
  ix : (sws nt P.lg).ix = P.lg.length
  ln : (sws nt P.lg).ld.length = nt
  pn : P.pts.length = nt
  lt : (sws nt P.lg).last < (sws nt P.lg).ix
  le : ∀ j : Nat, (sws nt P.lg).ld[j]?.getD 0 ≤ (sws nt P.lg).ix
  hd : ∀ (j : Nat) (t : At) (kd : Kd) (k : Pk), P.pts[j]? = some t → t.tk = some (kd, k) → t.fr = false → k.nx ≠ 5 → k.hd = P.word 0 ∨ (sws nt P.lg).ld[j]?.getD 0 ≤ (sws nt P.lg).last
theorem Sw.log {nt : Nat} (hS : Sw nt P) {t t' : At} {kd : Kd} {k : Pk} {r : Pa × Pk × Bool} (hL : Lw P i t.fr k r) (hi : i < nt) (hp : r.1.pts = P.pts) (ht : P.pts[i]? = some t) (hk : t.tk = some (kd, k)) (ht' : ∀ kd' k', t'.tk = some (kd', k') → r.2.2 = false ∧ k' = r.2.1) {Q : Pa} (q1 : Q.lg = r.1.lg) (q2 : Q.word 0 = r.1.word 0) (q3 : Q.pts = r.1.pts.set i t') : Sw nt Q := by
  have hln : Q.pts.length = nt := by rw [q3, List.length_set, hp]; exact hS.pn
  have other : ∀ (j : Nat) (u : At), Q.pts[j]? = some u → (j = i ∧ u = t') ∨ (j ≠ i ∧ P.pts[j]? = some u) := fun j u hu => by
    rw [q3, List.getElem?_set, hp] at hu
    split at hu
    · rename_i e
      split at hu
      · cases hu; exact .inl ⟨e.symm, rfl⟩
      · cases hu
    · rename_i e
      exact .inr ⟨fun e' => e e'.symm, hu⟩
  obtain ⟨s1, s2, s3, s4, s5, s6, s7, s8⟩ := hS
  have hlen : ∀ a : Acc, ((P.lg ++ [a]).length : Int) = (P.lg.length : Int) + 1 := fun a => by simp
  cases hL with
  | none hl hw he =>
    refine ⟨?_, ?_, ?_, ?_, hln, ?_, ?_, fun j u kd' k' hu hk' hf hn => ?_⟩ <;> (try simp only [q1, hl])
    · exact s1
    · exact s2.trans (by unfold tag; rw [q2, hw])
    · exact s3
    · exact s4
    · exact s6
    · exact s7
    · rw [q2, hw]
      rcases other j u hu with ⟨rfl, rfl⟩ | ⟨hj, hu⟩
      · have := (ht' _ _ hk').1; rw [he] at this; cases this
      · exact s8 j u kd' k' hu hk' hf hn
  | load a hl hth ha hkd hs hw hh =>
    have e : sws nt r.1.lg = { sws nt P.lg with ld := (sws nt P.lg).ld.set i (sws nt P.lg).ix, ix := (sws nt P.lg).ix + 1, ok := (sws nt P.lg).ok && decide (a.saw / 4294967296 = (sws nt P.lg).tag) } := by
      rw [hl, sws_snoc]
      unfold Sws.step
      rw [if_neg (by rw [hth]; omega), if_neg (by rw [ha]; simp), if_pos hkd, hth]
      rfl
    generalize sws nt P.lg = S at *
    refine ⟨?_, ?_, ?_, ?_, hln, ?_, fun j => ?_, fun j u kd' k' hu hk' hf hn => ?_⟩ <;> (try simp only [q1, e])
    · rw [s1, hs, s2]; simp [tag]
    · exact s2.trans (by unfold tag; rw [q2, hw])
    · rw [hl, hlen, s3]
    · rw [List.length_set]; exact s4
    · omega
    · rw [List.getElem?_set]
      have := s7 j
      split
      · split <;> simp <;> omega
      · omega
    · rw [q2, hw]
      rcases other j u hu with ⟨rfl, rfl⟩ | ⟨hj, hu⟩
      · have := (ht' _ _ hk').2; subst this; exact .inl hh
      · rw [List.getElem?_set, if_neg (fun e' => hj e'.symm)]
        exact s8 j u kd' k' hu hk' hf hn
  | far a hl hth ha hw hh hf0 hn0 =>
    have e : sws nt r.1.lg = { sws nt P.lg with ix := (sws nt P.lg).ix + 1 } := by
      rw [hl, sws_snoc]
      unfold Sws.step
      rw [if_neg (by rw [hth]; omega), if_pos ha]
    generalize sws nt P.lg = S at *
    refine ⟨?_, ?_, ?_, ?_, hln, ?_, fun j => ?_, fun j u kd' k' hu hk' hf hn => ?_⟩ <;> (try simp only [q1, e])
    · exact s1
    · exact s2.trans (by unfold tag; rw [q2, hw])
    · rw [hl, hlen, s3]
    · exact s4
    · omega
    · have := s7 j; omega
    · rw [q2, hw]
      rcases other j u hu with ⟨rfl, rfl⟩ | ⟨hj, hu⟩
      · have := (ht' _ _ hk').2; subst this; rw [hh]; exact s8 _ t kd k ht hk hf0 hn0
      · exact s8 j u kd' k' hu hk' hf hn
  | hit a hl hth ha hkd hs hx hw he =>
    have e : sws nt r.1.lg = { sws nt P.lg with tag := (sws nt P.lg).tag + 1, last := (sws nt P.lg).ix, ix := (sws nt P.lg).ix + 1, ok := (sws nt P.lg).ok && decide (a.new / 4294967296 = (sws nt P.lg).tag + 1) } := by
      rw [hl, sws_snoc]
      unfold Sws.step
      rw [if_neg (by rw [hth]; omega), if_neg (by rw [ha]; simp), if_neg (by rw [hkd]; decide), if_pos hkd, if_pos hs]
    generalize sws nt P.lg = S at *
    refine ⟨?_, ?_, ?_, ?_, hln, ?_, fun j => ?_, fun j u kd' k' hu hk' hf hn => ?_⟩ <;> (try simp only [q1, e])
    · rw [s1, hx, s2]; simp
    · rw [s2, ← hx]; unfold tag; rw [q2, hw]
    · rw [hl, hlen, s3]
    · exact s4
    · omega
    · have := s7 j; omega
    · rcases other j u hu with ⟨rfl, rfl⟩ | ⟨hj, hu⟩
      · obtain ⟨h1, h2⟩ := ht' _ _ hk'
        rcases he with he | he
        · rw [h1] at he; cases he
        · subst h2; exact absurd he hn
      · exact .inr (s7 j)
  | miss a hl hth ha hkd hs hw hd he hf0 hn0 =>
    have e : sws nt r.1.lg = { sws nt P.lg with ix := (sws nt P.lg).ix + 1, ok := (sws nt P.lg).ok && decide (¬ (sws nt P.lg).last < (sws nt P.lg).ld[i]?.getD 0) } := by
      rw [hl, sws_snoc]
      unfold Sws.step
      rw [if_neg (by rw [hth]; omega), if_neg (by rw [ha]; simp), if_neg (by rw [hkd]; decide), if_pos hkd, if_neg hs, hth]
      rfl
    generalize sws nt P.lg = S at *
    refine ⟨?_, ?_, ?_, ?_, hln, ?_, fun j => ?_, fun j u kd' k' hu hk' hf hn => ?_⟩ <;> (try simp only [q1, e])
    · rcases s8 i t kd k ht hk hf0 hn0 with h | h
      · exact absurd h hd
      · rw [s1]; simp; exact h
    · exact s2.trans (by unfold tag; rw [q2, hw])
    · rw [hl, hlen, s3]
    · exact s4
    · omega
    · have := s7 j; omega
    · rw [q2, hw]
      rcases other j u hu with ⟨rfl, rfl⟩ | ⟨hj, hu⟩
      · have := (ht' _ _ hk').2; subst this; exact absurd he hn
      · exact s8 j u kd' k' hu hk' hf hn
theorem Sw.step {nt : Nat} (hS : Sw nt P) (hI : Inv P b) (hb : b < 65536) {t : At} (ht : P.pts[i]? = some t) (now : Int) : Sw nt (P.step i t now).1 := by
  have hi : i < P.pts.length := (List.getElem?_eq_some_iff.1 ht).1
  cases hk : t.tk with
  | none => simp only [Pa.step, hk]; exact hS
  | some kk =>
    obtain ⟨kd, k⟩ := kk
    have hT := hI.th i t kd k ht hk
    have hL := work_log (now := now) hI hi hT
    have hp := (work_core (now := now) hI hb hi hT).1.pts
    simp only [Pa.step, hk]
    cases he : (P.work i now t.fr kd k).2.2 with
    | true =>
      simp only [if_true]
      exact hS.log hL (by rw [← hS.pn]; exact hi) hp ht hk (fun _ _ e => by cases e) rfl rfl rfl
    | false =>
      simp only [Bool.false_eq_true, if_false]
      exact hS.log hL (by rw [← hS.pn]; exact hi) hp ht hk (fun _ _ e => by cases e; exact ⟨he, rfl⟩) rfl rfl rfl
theorem Sw.begins {nt : Nat} (hS : Sw nt P) (op arg data now : Int) : Sw nt (P.begins i op arg data now).1 := by
  unfold Pa.begins
  split
  · obtain ⟨s1, s2, s3, s4, s5, s6, s7, s8⟩ := hS
    refine ⟨s1, s2, s3, s4, by simpa using s5, s6, s7, fun j u kd k hu hk hf hn => ?_⟩
    simp only [List.getElem?_set] at hu
    split at hu
    · split at hu
      · cases hu; cases hf
      · cases hu
    · exact s8 j u kd k hu hk hf hn
  · exact hS
theorem Sw.move {nt : Nat} (hS : Sw nt P) (h : Inv P P.n) (th op arg data : Int) : Sw nt (P.move th op arg data).1 := by
  have hc : Sw nt P.count := ⟨hS.ok, hS.tg, hS.ix, hS.ln, hS.pn, hS.lt, hS.le, hS.hd⟩
  unfold Pa.move
  split
  · exact hS
  · rename_i hn
    split
    · split
      · exact hc
      · rename_i t ht
        split
        · exact hc.step h.count (by omega) ht _
        · split
          · exact hc
          · exact hc.begins op arg data _
    · exact hc
theorem Sw.play {nt : Nat} (ms : List Mv) : ∀ {P : Pa}, Sw nt P → Inv P P.n → Sw nt (P.play ms) := by
  induction ms with
  | nil => exact fun h _ => h
  | cons x ms ih => exact fun h hI => ih (h.move hI x.th x.op x.arg x.data) (hI.move _ _ _ _)
theorem Sw.start (m K : Nat) (A : Ao) (nt : Nat) (ws : List Int) (h0 : ws[0]?.getD 0 / 4294967296 = 0) : Sw nt (Pa.new m K A nt ws) := by
  refine ⟨rfl, h0.symm, rfl, by simp [Pa.new, sws], by simp [Pa.new], by simp [Pa.new, sws], fun j => ?_, fun j t kd k hu hk => ?_⟩
  · simp only [Pa.new, sws, List.foldl_nil, List.getElem?_replicate]
    split <;> simp
  · simp only [Pa.new, List.getElem?_replicate] at hu
    split at hu
    · cases hu; cases hk
    · cases hu
end
end Go.Proofs.YtjpgjhjnneeliaaGreat.Ar
/-
  What the loop of ArenaSwaps finds at each access of a log.
-/
namespace Go.Proofs.YtjpgjhjnneeliaaGreat.Ar
open Go.RowKit Go.Shelf Mr Me Ma Wc Wm Wr
theorem snocI {α : Type} {p : List α → Prop} (h0 : p []) (h1 : ∀ l a, p l → p (l ++ [a])) (l : List α) : p l := by
  have key : ∀ l : List α, p l.reverse := fun l => by
    induction l with
    | nil => exact h0
    | cons a l ih => rw [List.reverse_cons]; exact h1 _ _ ih
  have := key l.reverse
  rwa [List.reverse_reverse] at this
theorem sws_bd (nt : Nat) (l : List Acc) : 0 ≤ (sws nt l).tag ∧ (sws nt l).tag ≤ l.length ∧ (sws nt l).ix = l.length ∧ (sws nt l).ld.length = nt := by
  refine snocI (p := fun l => 0 ≤ (sws nt l).tag ∧ (sws nt l).tag ≤ l.length ∧ (sws nt l).ix = l.length ∧ (sws nt l).ld.length = nt) (by simp [sws]) (fun l a ih => ?_) l
  · show _ ∧ _ ∧ _ ∧ _
    rw [sws_snoc]
    obtain ⟨i1, i2, i3, i4⟩ := ih
    have e : (((l ++ [a]).length : Nat) : Int) = (l.length : Int) + 1 := by simp
    rw [e]
    unfold Sws.step
    repeat' split
    all_goals (simp only [List.length_set]; omega)
theorem sws_ok (nt : Nat) (l l' : List Acc) (h : (sws nt (l ++ l')).ok = true) : (sws nt l).ok = true := by
  revert h
  refine snocI (p := fun l' => (sws nt (l ++ l')).ok = true → (sws nt l).ok = true) (fun h => by simpa using h) (fun l' a ih h => ?_) l'
  · apply ih
    rw [← List.append_assoc, sws_snoc] at h
    unfold Sws.step at h
    repeat' split at h
    all_goals (simp at h)
    all_goals (first | exact h | exact h.1)
/-- What the law's loop finds at an access. -/
inductive Fd (nt : Nat) (S S' : Sws) (a : Acc) : Prop where
  | far (t1 : 0 ≤ a.th) (t2 : a.th < nt) (ha : a.ad ≠ 0) (e1 : S'.tag = S.tag) (e2 : S'.last = S.last) (e3 : S'.ld = S.ld)
  | load (t1 : 0 ≤ a.th) (t2 : a.th < nt) (ha : a.ad = 0) (hk : a.kd = 1) (hs : a.saw / 4294967296 = S.tag) (e1 : S'.tag = S.tag) (e2 : S'.last = S.last) (e3 : S'.ld = S.ld.set a.th.toNat S.ix)
  | hit (t1 : 0 ≤ a.th) (t2 : a.th < nt) (ha : a.ad = 0) (hk : a.kd = 3) (hs : a.saw = a.old) (hx : a.new / 4294967296 = S.tag + 1) (e1 : S'.tag = S.tag + 1) (e2 : S'.last = S.ix) (e3 : S'.ld = S.ld)
  | miss (t1 : 0 ≤ a.th) (t2 : a.th < nt) (ha : a.ad = 0) (hk : a.kd = 3) (hs : a.saw ≠ a.old) (hx : ¬ S.last < S.ld[a.th.toNat]?.getD 0) (e1 : S'.tag = S.tag) (e2 : S'.last = S.last) (e3 : S'.ld = S.ld)
theorem sws_find (nt : Nat) (l : List Acc) (h : (sws nt l).ok = true) (j : Nat) (a : Acc) (ha : l[j]? = some a) : Fd nt (sws nt (l.take j)) (sws nt (l.take (j + 1))) a := by
  have e : l.take (j + 1) = l.take j ++ [a] := by rw [List.take_add_one, ha]; rfl
  have h' : ((sws nt (l.take j)).step nt a).ok = true := by
    rw [← sws_snoc, ← e]
    exact sws_ok nt _ (l.drop (j + 1)) (by rw [List.take_append_drop]; exact h)
  rw [e, sws_snoc]
  generalize sws nt (l.take j) = S at *
  unfold Sws.step at h' ⊢
  by_cases ht : 0 ≤ a.th ∧ a.th < nt
  · rw [if_neg (by simpa using ht)] at h' ⊢
    by_cases had : a.ad = 0
    · rw [if_neg (by simpa using had)] at h' ⊢
      by_cases hk : a.kd = 1
      · rw [if_pos hk] at h' ⊢
        simp at h'
        exact .load ht.1 ht.2 had hk h'.2 rfl rfl rfl
      · rw [if_neg hk] at h' ⊢
        by_cases hk3 : a.kd = 3
        · rw [if_pos hk3] at h' ⊢
          by_cases hs : a.saw = a.old
          · rw [if_pos hs] at h' ⊢
            simp at h'
            exact .hit ht.1 ht.2 had hk3 hs h'.2 rfl rfl rfl
          · rw [if_neg hs] at h' ⊢
            simp at h'
            exact .miss ht.1 ht.2 had hk3 hs (by have := h'.2; omega) rfl rfl rfl
        · rw [if_neg hk3] at h'
          simp at h'
    · rw [if_pos had] at h' ⊢
      exact .far ht.1 ht.2 had rfl rfl rfl
  · rw [if_pos ht] at h'
    simp at h'
end Go.Proofs.YtjpgjhjnneeliaaGreat.Ar
