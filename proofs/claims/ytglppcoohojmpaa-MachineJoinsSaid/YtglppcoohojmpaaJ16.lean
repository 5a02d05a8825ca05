import Derived.Test.YtglppcoohojmpaaJ15
import Derived.Laws.Rows
import Derived.ProofKit
import Derived.OpenShut
import Derived.Deep.Slices
import Derived.SizedLaws
/-
  fit and play of reclaimlaw03 by their contracts.
-/
namespace Go.Proofs.Ytglppcoohojmpaa.Ma
open Go.RowKit Go.Shelf Mr Me
def fitT (th : Int) : Nat := if 1 ≤ th ∧ th ≤ 16 then th.toNat else 2
theorem fitT_in (th : Int) (h1 : 1 ≤ th) (h2 : th ≤ 16) : ((fitT th : Nat) : Int) = th := by unfold fitT; rw [if_pos ⟨h1, h2⟩]; omega
theorem fitT_out (th : Int) (h : ¬ (1 ≤ th ∧ th ≤ 16)) : fitT th = 2 := by unfold fitT; rw [if_neg h]
theorem fitT_pos (th : Int) : 1 ≤ fitT th ∧ fitT th ≤ 16 := by unfold fitT; split <;> omega
/-- A script's value. -/
def scV (th : Int) (a : Option Addr) (n cap : Nat) (am : Option Addr) (nm cm : Nat) : Value := .agg #[.int .i64 th, .slice a n cap, .slice am nm cm]
theorem src_take {W : World} {a : Option Addr} {n cap : Nat} {ws : List Int} (h : Src W a n cap ws) (m : Nat) : Src W a (min n m) cap (ws.take m) := by
  refine ⟨by rw [h.1, List.length_take, Nat.min_comm], ?_⟩
  rcases h.2 with ⟨rfl, rfl, rfl⟩ | ⟨ad, rfl, hc⟩
  · exact .inl ⟨rfl, by simp, rfl⟩
  · refine .inr ⟨ad, rfl, fun j u hu => hc j u ?_⟩
    simp only [wrd, List.map_take] at hu ⊢
    rw [List.getElem?_take] at hu
    split at hu
    · exact hu
    · cases hu
theorem MvAt.take {W : World} {a : Option Addr} {n : Nat} {ms : List Mv} (h : MvAt W a n ms) (m : Nat) : MvAt W a (min n m) (ms.take m) := by
  refine ⟨by rw [h.1, List.length_take, Nat.min_comm], ?_⟩
  rcases h.2 with rfl | ⟨b, off, rfl, hb, hc⟩
  · exact .inl (by simp)
  · refine .inr ⟨b, off, rfl, hb, fun j hj => ?_⟩
    rw [List.length_take] at hj
    rw [List.getElem?_take, if_pos (by omega)]
    exact hc j (by omega)
set_option maxRecDepth 100000 in
set_option maxHeartbeats 2000000 in
theorem fit_any (w : World) (th : Int) (a : Option Addr) (n cap : Nat) (am : Option Addr) (nm cm : Nat) (hn : n ≤ cap) (hnm : nm ≤ cm) (ha : 8192 < n → ∃ ad, a = some ad) (ham : 65536 < nm → ∃ ad, am = some ad) :
    Calls Try.prog 7 #[.agg #[.int .i64 th, .slice a n cap, .slice am nm cm]] w fun e w' => e = .returned (.agg #[.int .i64 ((fitT th : Nat) : Int), .slice a (min n 8192) cap, .slice am (min nm 65536) cm]) ∧ Below w.heap.size w w' := by
  have B0 : ∀ o1 o2, Below w.heap.size w ((w.alloc o1).alloc o2) := fun o1 o2 => ((Below.refl _ _).alloc (Nat.le_refl _) o1).alloc (by simp) o2
  obtain ⟨m1, hm1⟩ : ∃ m1, m1 = min n 8192 := ⟨_, rfl⟩
  obtain ⟨m2, hm2⟩ : ∃ m2, m2 = min nm 65536 := ⟨_, rfl⟩
  obtain ⟨ft, hft⟩ : ∃ ft, ft = fitT th := ⟨_, rfl⟩
  rw [← hm1, ← hm2, ← hft]
  have hT : (decide (th < 1) = false ∧ decide (16 < th) = false ∧ th = (ft : Int)) ∨ (decide (th < 1) = true ∧ ft = 2) ∨ (decide (th < 1) = false ∧ decide (16 < th) = true ∧ ft = 2) := by
    by_cases h1 : th < 1
    · exact .inr (.inl ⟨by simpa using h1, by rw [hft]; exact fitT_out th (by omega)⟩)
    · by_cases h2 : 16 < th
      · exact .inr (.inr ⟨by simpa using h1, by simpa using h2, by rw [hft]; exact fitT_out th (by omega)⟩)
      · exact .inl ⟨by simpa using h1, by simpa using h2, by rw [hft]; exact (fitT_in th (by omega) (by omega)).symm⟩
  have hW : (decide (8192 < (n : Int)) = true ∧ 8192 < n ∧ (∃ ad, a = some ad) ∧ m1 = 8192) ∨ (decide (8192 < (n : Int)) = false ∧ ¬ 8192 < n ∧ n = m1) := by
    by_cases h : 8192 < n
    · exact .inl ⟨by simp; omega, h, ha h, by omega⟩
    · exact .inr ⟨by simp; omega, h, by omega⟩
  have hM : (decide (65536 < (nm : Int)) = true ∧ 65536 < nm ∧ (∃ ad, am = some ad) ∧ m2 = 65536) ∨ (decide (65536 < (nm : Int)) = false ∧ ¬ 65536 < nm ∧ nm = m2) := by
    by_cases h : 65536 < nm
    · exact .inl ⟨by simp; omega, h, ham h, by omega⟩
    · exact .inr ⟨by simp; omega, h, by omega⟩
  clear hm1 hm2 hft ha ham
  rcases hT with ⟨t1, t2, t3⟩ | ⟨t1, t3⟩ | ⟨t1, t2, t3⟩ <;> rcases hW with ⟨f1, d1, ⟨ad, rfl⟩, d2⟩ | ⟨f1, d1, d2⟩ <;> rcases hM with ⟨f2, e1, ⟨ae, rfl⟩, e2⟩ | ⟨f2, e1, e2⟩ <;> subst t3 <;> subst d2 <;> subst e2 <;> (go_enter Try.func7, Try.ntmps7; go_wp2; refine bodyPost_ret (results_cell_row rfl _ _ (w.heap.size + 1) _ _ _ _ rfl (heap_alloc2_new _ _ _) (by rfl) rfl (by rfl)) rfl ?_; exact ⟨rfl, B0 _ _⟩)
end Go.Proofs.Ytglppcoohojmpaa.Ma
/-
  OPENING a script (Threads, Words, Moves) that came in.
-/
namespace Go.Proofs.Ytglppcoohojmpaa.Ma
open Go.ChangeShapes Go.WideShapes Go.ChangeAt Go.RowKit Go.Deep
open Mr Me
theorem cells_u64 : Try.prog.cellsOf 59 = 1 := by kernel_rfl
theorem cells_i64 : Try.prog.cellsOf 3 = 1 := by kernel_rfl
theorem cells_op : Try.prog.cellsOf 44 = 1 := by kernel_rfl
theorem cells_mv : Try.prog.cellsOf 46 = 4 := by kernel_rfl
theorem cells_lw : Try.prog.cellsOf 22 = 1 := by kernel_rfl
theorem cells_lm : Try.prog.cellsOf 23 = 1 := by kernel_rfl
theorem cells_sc : Try.prog.cellsOf 25 = 3 := by kernel_rfl
section
variable {H : Type} {enc : TypeId × Value → H} {w : World} {base : Nat} {spare : Nat → Bool} {held : Bool}
/-- The field number t of a struct whose fields are one cell each. -/
theorem field_int {n : Nat} {ty : TypeId} {fs : Array Field} {cs : List Value} {x : DataW H × List MemPlace} (hs : Try.prog.underlying ty = some (.struct fs)) (h : DataW.trod enc Try.prog w base spare held n ty cs = some x) (t : Nat) (f : Field) (k : IntKind) (hf : fs[t]? = some f) (ho : f.offset = t) (hc : Try.prog.cellsOf f.type = 1) (hk : Try.prog.underlying f.type = some (.int k)) :
    ∃ z, cs[t]? = some (Value.int k z) := by
  obtain ⟨xs, m, _, _, hl, hxl, hx⟩ := DataW.trod_struct hs h
  have q := hx t f hf
  rw [ho, hc] at q
  have ht : t < fs.size := (Array.getElem?_eq_some_iff.1 hf).1
  rw [List.getElem?_eq_getElem (by omega)] at q
  obtain ⟨z, hz, _, _⟩ := DataW.trod_int hk q
  refine ⟨z, ?_⟩
  have : ((cs.drop t).take 1)[0]? = some (.int k z) := by rw [hz]; rfl
  rw [List.getElem?_take] at this
  simpa using this
theorem add_add (a : Addr) (i j : Nat) (v : Value) (h : w.cell? ((a.add i).add j) = some v) (ha : a.spot = none) : w.cell? ⟨a.block, a.off + i + j, none⟩ = some v := by
  obtain ⟨b, o, s⟩ := a
  simp at ha
  subst ha
  have e1 : ∀ (o i : Nat), (⟨b, o, none⟩ : Addr).add i = ⟨b, o + i, none⟩ := fun o i => by unfold Addr.add; split <;> simp_all
  rw [e1, e1] at h
  exact h
theorem spot_of {a : Addr} {i j : Nat} {v : Value} (h : w.cell? ((a.add i).add j) = some v) (ha : i = 0) (hj : j = 0) : a.spot = none := by
  subst ha; subst hj
  have := World.cell?_spot h
  simpa [Addr.add] using this
theorem open_mvs {fuel : Nat} {cs : List Value} {x : DataW H × List MemPlace} (hf : DataW.trod enc Try.prog w base spare held fuel 23 cs = some x) :
    ∃ a n cap ms, cs = [.slice a n cap] ∧ MvAt w a n ms ∧ n ≤ cap := by
  rcases open_slice Try.underlying23 hf with ⟨hc, hx⟩ | ⟨ad, n, cap, m, k, D, Pl, hc, _, hl, _, hm, hx, hel⟩
  · exact ⟨none, 0, 0, [], hc, ⟨rfl, .inl rfl⟩, Nat.le_refl _⟩
  · have hle : n ≤ m := by rw [hm]; split <;> omega
    have each : ∀ i, i < n → ∃ o : Mv, w.cell? ((ad.add (i * 4)).add 0) = some (.int .i64 o.th) ∧ w.cell? ((ad.add (i * 4)).add 1) = some (.int .i64 o.op) ∧ w.cell? ((ad.add (i * 4)).add 2) = some (.int .i64 o.arg) ∧ w.cell? ((ad.add (i * 4)).add 3) = some (.int .i64 o.data) := by
      intro i hi
      obtain ⟨cs, h1, h2⟩ := hel i (by omega)
      rw [cells_mv] at h1
      obtain ⟨_, hcl, hce⟩ := World.cells?_some h1
      obtain ⟨z0, e0⟩ := field_int Try.underlying46 h2 0 _ .i64 rfl rfl cells_i64 Try.underlying3
      obtain ⟨z1, e1⟩ := field_int Try.underlying46 h2 1 _ .i64 rfl rfl cells_op Try.underlying44
      obtain ⟨z2, e2⟩ := field_int Try.underlying46 h2 2 _ .i64 rfl rfl cells_i64 Try.underlying3
      obtain ⟨z3, e3⟩ := field_int Try.underlying46 h2 3 _ .i64 rfl rfl cells_i64 Try.underlying3
      exact ⟨⟨z0, z1, z2, z3⟩, (hce 0 (by omega)).trans e0, (hce 1 (by omega)).trans e1, (hce 2 (by omega)).trans e2, (hce 3 (by omega)).trans e3⟩
    obtain ⟨f, hf'⟩ := Classical.axiomOfChoice (fun i => (if h : i < n then (by obtain ⟨o, ho⟩ := each i h; exact ⟨o, fun _ => ho⟩) else ⟨noMv, fun h' => absurd h' h⟩ : ∃ o : Mv, i < n → w.cell? ((ad.add (i * 4)).add 0) = some (.int .i64 o.th) ∧ w.cell? ((ad.add (i * 4)).add 1) = some (.int .i64 o.op) ∧ w.cell? ((ad.add (i * 4)).add 2) = some (.int .i64 o.arg) ∧ w.cell? ((ad.add (i * 4)).add 3) = some (.int .i64 o.data)))
    have hlen : ((List.range n).map f).length = n := by simp
    refine ⟨some ad, n, cap, (List.range n).map f, hc, ⟨hlen.symm, ?_⟩, hl⟩
    by_cases hn : n = 0
    · subst hn; exact .inl rfl
    · have hsp : ad.spot = none := spot_of (hf' 0 (by omega)).1 (by omega) rfl
      refine .inr ⟨ad.block, ad.off, by obtain ⟨_, _, s⟩ := ad; simp at hsp; subst hsp; rfl, ?_, fun j hj => ?_⟩
      · have := World.block_lt_of_cell? w _ (hf' 0 (by omega)).1
        rwa [blk_add, blk_add] at this
      · rw [hlen] at hj
        obtain ⟨c0, c1, c2, c3⟩ := hf' j hj
        have eo : ((List.range n).map f)[j]?.getD noMv = f j := by simp [hj]
        rw [eo]
        exact ⟨add_add ad (j * 4) 0 _ c0 hsp, add_add ad (j * 4) 1 _ c1 hsp, add_add ad (j * 4) 2 _ c2 hsp, add_add ad (j * 4) 3 _ c3 hsp⟩
theorem open_lws {fuel : Nat} {cs : List Value} {x : DataW H × List MemPlace} (hf : DataW.trod enc Try.prog w base spare held fuel 22 cs = some x) :
    ∃ a n cap ws, cs = [.slice a n cap] ∧ Src w a n cap ws ∧ n ≤ cap := by
  rcases open_ints Try.underlying22 Try.underlying59 cells_u64 hf with ⟨hc, _⟩ | ⟨ad, n, cap, zs, hc, _, hl, _, hz, _, hcell, _⟩
  · exact ⟨none, 0, 0, [], hc, ⟨rfl, .inl ⟨rfl, rfl, rfl⟩⟩, Nat.le_refl _⟩
  · have hle : n ≤ zs.length := by rw [hz]; split <;> omega
    refine ⟨some ad, n, cap, zs.take n, hc, ⟨by simp [hle], .inr ⟨ad, rfl, fun j u hu => ?_⟩⟩, hl⟩
    have hj : j < n := by
      have := (List.getElem?_eq_some_iff.1 hu).1
      simp [wrd] at this; omega
    rw [hcell j (by omega), ← hu]
    simp [wrd, hj, List.getD, show j < zs.length by omega]
set_option maxRecDepth 100000 in
theorem open_script {r : Reach} {b0 : Nat} {v : Value} {d : DataW H} {p : List MemPlace} (hv : Value.okWide Try.prog w r b0 25 v) (h : DataW.Trod enc Try.prog w base spare held 25 v d p) :
    ∃ th a n cap ws am nm cm ms, v = .agg #[.int .i64 th, .slice a n cap, .slice am nm cm] ∧ Src w a n cap ws ∧ MvAt w am nm ms ∧ n ≤ cap ∧ nm ≤ cm := by
  obtain ⟨cs, rfl, hsz⟩ := okWide_struct Try.underlying25 hv
  rw [cells_sc] at hsz
  obtain ⟨fuel, hfu⟩ := h
  obtain ⟨xs, n, _, _, hl, hxl, hx⟩ := DataW.trod_struct Try.underlying25 hfu
  have hcs : (Value.agg cs).cells.toList = cs.toList := rfl
  rw [hcs] at hx
  obtain ⟨l, rfl⟩ : ∃ l : List Value, cs = l.toArray := ⟨cs.toList, by simp⟩
  match l, hsz with
  | [x0, x1, x2], _ =>
    have q0 := hx 0 _ rfl
    have q1 := hx 1 _ rfl
    have q2 := hx 2 _ rfl
    have hxs : xs.length = 3 := by simpa using hxl
    match xs, hxs with
    | [y0, y1, y2], _ =>
      obtain ⟨th, e0, _, _⟩ := DataW.trod_int Try.underlying3 q0
      obtain ⟨a, n, cap, ws, e1, hs, hn⟩ := open_lws q1
      obtain ⟨am, nm, cm, ms, e2, hm, hnm⟩ := open_mvs q2
      simp [cells_i64] at e0
      simp [cells_lw] at e1
      simp [cells_lm] at e2
      subst e0; subst e1; subst e2
      exact ⟨th, a, n, cap, ws, am, nm, cm, ms, rfl, hs, hm, hn, hnm⟩
end
end Go.Proofs.Ytglppcoohojmpaa.Ma
