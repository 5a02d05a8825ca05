import Derived.Test.YtmejblmeaipahaaDoorJ22
import Derived.ProofKit
import Derived.OpenShut
import Derived.Deep.Slices
import Derived.SizedLaws
import Derived.ChangeSame
/-
  TSO: opening a program and turns that came in.
-/
namespace Go.Proofs.YtmejblmeaipahaaDoor.Ts
open Go.ChangeShapes Go.WideShapes Go.ChangeAt Go.RowKit Go.Deep Mr
set_option linter.unusedVariables false
theorem ci : Tryd.prog.cellsOf 3 = 1 := by kernel_rfl
theorem cbo : Tryd.prog.cellsOf 4 = 1 := by kernel_rfl
theorem cik : Tryd.prog.cellsOf 71 = 1 := by kernel_rfl
theorem cin : Tryd.prog.cellsOf 73 = 7 := by kernel_rfl
theorem csl : Tryd.prog.cellsOf 58 = 1 := by kernel_rfl
theorem csi : Tryd.prog.cellsOf 22 = 1 := by kernel_rfl
theorem cst : Tryd.prog.cellsOf 23 = 1 := by kernel_rfl
theorem ctu : Tryd.prog.cellsOf 44 = 3 := by kernel_rfl
theorem byi : Tryd.prog.bytesOf 3 = 8 := by kernel_rfl
theorem byn : Tryd.prog.bytesOf 73 = 56 := by kernel_rfl
theorem bys : Tryd.prog.bytesOf 58 = 24 := by kernel_rfl
theorem byt : Tryd.prog.bytesOf 44 = 24 := by kernel_rfl
/-- A list out of what holds of each number. -/
theorem list_of {α : Type} (n : Nat) (d : α) (P : Nat → α → Prop) (h : ∀ i, i < n → ∃ x, P i x) : ∃ xs : List α, xs.length = n ∧ ∀ j x, xs[j]? = some x → P j x := by
  classical
  refine ⟨(List.range n).map fun i => if h' : i < n then Classical.choose (h i h') else d, by simp, fun j x hx => ?_⟩
  have hj : j < n := by have := (List.getElem?_eq_some_iff.1 hx).1; simpa using this
  simp [hj] at hx
  subst hx
  exact Classical.choose_spec (h j hj)
section
variable {H : Type} {enc : TypeId × Value → H} {w : World} {base : Nat} {spare : Nat → Bool} {held : Bool}
theorem fld {n : Nat} {ty : TypeId} {fs : Array Field} {cs : List Value} {x : DataW H × List MemPlace} (hs : Tryd.prog.underlying ty = some (.struct fs)) (h : DataW.trod enc Tryd.prog w base spare held n ty cs = some x) (t : Nat) (f : Field) (hf : fs[t]? = some f) (ho : f.offset = t) (hc : Tryd.prog.cellsOf f.type = 1) : ∃ m y, DataW.trod enc Tryd.prog w base spare held m f.type ((cs.drop t).take 1) = some y := by
  obtain ⟨xs, m, _, _, hl, hxl, hx⟩ := DataW.trod_struct hs h
  have q := hx t f hf
  rw [ho, hc] at q
  have ht : t < fs.size := (Array.getElem?_eq_some_iff.1 hf).1
  rw [List.getElem?_eq_getElem (by omega)] at q
  exact ⟨m, _, q⟩
theorem at_of {cs : List Value} {t : Nat} {v : Value} (h : (cs.drop t).take 1 = [v]) : cs[t]? = some v := by
  have : ((cs.drop t).take 1)[0]? = some v := by rw [h]; rfl
  rw [List.getElem?_take] at this
  simpa using this
theorem fldI {n : Nat} {ty : TypeId} {fs : Array Field} {cs : List Value} {x : DataW H × List MemPlace} (hs : Tryd.prog.underlying ty = some (.struct fs)) (h : DataW.trod enc Tryd.prog w base spare held n ty cs = some x) (t : Nat) (f : Field) (hf : fs[t]? = some f) (ho : f.offset = t) (hc : Tryd.prog.cellsOf f.type = 1) (hk : Tryd.prog.underlying f.type = some (.int .i64)) : ∃ z, cs[t]? = some (Value.int .i64 z) := by
  obtain ⟨m, y, q⟩ := fld hs h t f hf ho hc
  obtain ⟨z, hz, _, _⟩ := DataW.trod_int hk q
  exact ⟨z, at_of hz⟩
theorem fldB {n : Nat} {ty : TypeId} {fs : Array Field} {cs : List Value} {x : DataW H × List MemPlace} (hs : Tryd.prog.underlying ty = some (.struct fs)) (h : DataW.trod enc Tryd.prog w base spare held n ty cs = some x) (t : Nat) (f : Field) (hf : fs[t]? = some f) (ho : f.offset = t) (hc : Tryd.prog.cellsOf f.type = 1) (hk : Tryd.prog.underlying f.type = some .bool) : ∃ z, cs[t]? = some (Value.bool z) := by
  obtain ⟨m, y, q⟩ := fld hs h t f hf ho hc
  obtain ⟨z, hz, _⟩ := DataW.trod_bool hk q
  exact ⟨z, at_of hz⟩
theorem spn {a : Addr} {i : Nat} {v : Value} (h : w.cell? (a.add i) = some v) : a.spot = none ∨ i ≠ 0 := by
  by_cases e : i = 0
  · subst e
    have := World.cell?_spot h
    left
    simpa [Addr.add] using this
  · exact .inr e
theorem adv (a : Addr) (i j : Nat) (v : Value) (ha : a.spot = none) (h : w.cell? ((a.add i).add j) = some v) : w.cell? ⟨a.block, a.off + i + j, none⟩ = some v := by
  obtain ⟨b, o, s⟩ := a
  simp at ha
  subst ha
  rw [add1, add1] at h
  exact h
theorem ad0 (a : Addr) (i : Nat) (v : Value) (ha : a.spot = none) (h : w.cell? (a.add i) = some v) : w.cell? ⟨a.block, a.off + i, none⟩ = some v := by
  obtain ⟨b, o, s⟩ := a
  simp at ha
  subst ha
  rw [add1] at h
  exact h
theorem some_of {a : Addr} (h : a.spot = none) : (some a : Option Addr) = some ⟨a.block, a.off, none⟩ := by
  obtain ⟨b, o, s⟩ := a
  simp at h
  subst h
  rfl
def SzD (x : DataW H) (n : Nat) : Prop := n = 0 ∨ ∃ es rs, x = .slice es rs ∧ es.length = n
theorem open_ints {fuel : Nat} {cs : List Value} {x : DataW H × List MemPlace} (hf : DataW.trod enc Tryd.prog w base spare held fuel 22 cs = some x) : ∃ a n cap xs, cs = [.slice a n cap] ∧ IsAt w a n xs ∧ SzD x.1 n := by
  rcases open_slice Tryd.underlying22 hf with ⟨hc, hx⟩ | ⟨ad, n, cap, m, k, D, Pl, hc, _, hl, _, hm, hx, hel⟩
  · exact ⟨none, 0, 0, [], hc, ⟨rfl, .inl rfl⟩, .inl rfl⟩
  · have hle : n ≤ m := by rw [hm]; split <;> omega
    obtain ⟨xs, hxl, hxs⟩ := list_of n (0 : Int) (fun i z => w.cell? (ad.add i) = some (.int .i64 z)) (fun i hi => by
      obtain ⟨cs', h1, h2⟩ := hel i (by omega)
      rw [ci] at h1
      obtain ⟨_, hcl, hce⟩ := World.cells?_some h1
      obtain ⟨z, hz, _, _⟩ := DataW.trod_int Tryd.underlying3 h2
      subst hz
      have h9 := hce 0 (by simp)
      rw [Nat.mul_one] at h9
      refine ⟨z, ?_⟩
      have e : (ad.add i).add 0 = ad.add i := by unfold Addr.add; split <;> simp_all
      rw [e] at h9
      exact h9)
    refine ⟨some ad, n, cap, xs, hc, ⟨hxl.symm, ?_⟩, .inr ⟨_, _, by rw [hx], by simp⟩⟩
    by_cases hn : xs = []
    · exact .inl hn
    · have h0 : 0 < xs.length := List.length_pos_iff.2 hn
      have c0 := hxs 0 _ (List.getElem?_eq_getElem h0)
      have hsp : ad.spot = none := (spn c0).resolve_right (by simp)
      refine .inr ⟨ad.block, ad.off, some_of hsp, ?_, fun j z hz => ad0 ad j _ hsp (hxs j z hz)⟩
      exact World.block_lt_of_cell? w ⟨ad.block, ad.off + 0, none⟩ (ad0 ad 0 _ hsp c0)
theorem open_code {fuel : Nat} {cs : List Value} {x : DataW H × List MemPlace} (hf : DataW.trod enc Tryd.prog w base spare held fuel 58 cs = some x) : ∃ a n cap c, cs = [.slice a n cap] ∧ CdAt w a n c ∧ n ≤ cap ∧ SzD x.1 n := by
  rcases open_slice Tryd.underlying58 hf with ⟨hc, hx⟩ | ⟨ad, n, cap, m, k, D, Pl, hc, _, hl, _, hm, hx, hel⟩
  · exact ⟨none, 0, 0, [], hc, ⟨rfl, .inl rfl⟩, Nat.le_refl _, .inl rfl⟩
  · have hle : n ≤ m := by rw [hm]; split <;> omega
    obtain ⟨xs, hxl, hxs⟩ := list_of n noIn (fun i z => ∀ f u, z.cells[f]? = some u → w.cell? ((ad.add (i * 7)).add f) = some u) (fun i hi => by
      obtain ⟨cs', h1, h2⟩ := hel i (by omega)
      rw [cin] at h1
      obtain ⟨_, hcl, hce⟩ := World.cells?_some h1
      obtain ⟨z0, e0⟩ := fldI Tryd.underlying73 h2 0 _ rfl rfl cik Tryd.underlying71
      obtain ⟨z1, e1⟩ := fldI Tryd.underlying73 h2 1 _ rfl rfl ci Tryd.underlying3
      obtain ⟨z2, e2⟩ := fldI Tryd.underlying73 h2 2 _ rfl rfl ci Tryd.underlying3
      obtain ⟨z3, e3⟩ := fldI Tryd.underlying73 h2 3 _ rfl rfl ci Tryd.underlying3
      obtain ⟨z4, e4⟩ := fldI Tryd.underlying73 h2 4 _ rfl rfl ci Tryd.underlying3
      obtain ⟨z5, e5⟩ := fldI Tryd.underlying73 h2 5 _ rfl rfl ci Tryd.underlying3
      obtain ⟨z6, e6⟩ := fldI Tryd.underlying73 h2 6 _ rfl rfl ci Tryd.underlying3
      refine ⟨⟨z0, z1, z2, z3, z4, z5, z6⟩, fun f u hu => ?_⟩
      match f, hu with
      | 0, hu => cases hu; exact (hce 0 (by omega)).trans e0
      | 1, hu => cases hu; exact (hce 1 (by omega)).trans e1
      | 2, hu => cases hu; exact (hce 2 (by omega)).trans e2
      | 3, hu => cases hu; exact (hce 3 (by omega)).trans e3
      | 4, hu => cases hu; exact (hce 4 (by omega)).trans e4
      | 5, hu => cases hu; exact (hce 5 (by omega)).trans e5
      | 6, hu => cases hu; exact (hce 6 (by omega)).trans e6)
    refine ⟨some ad, n, cap, xs, hc, ⟨hxl.symm, ?_⟩, hl, .inr ⟨_, _, by rw [hx], by simp⟩⟩
    by_cases hn : xs = []
    · exact .inl hn
    · have h0 : 0 < xs.length := List.length_pos_iff.2 hn
      have c0 := hxs 0 _ (List.getElem?_eq_getElem h0) 0 _ rfl
      rw [Nat.zero_mul] at c0
      have e00 : (ad.add 0).add 0 = ad.add 0 := by unfold Addr.add; split <;> simp_all
      rw [e00] at c0
      have hsp : ad.spot = none := (spn c0).resolve_right (by simp)
      refine .inr ⟨ad.block, ad.off, some_of hsp, World.block_lt_of_cell? w ⟨ad.block, ad.off + 0, none⟩ (ad0 ad 0 _ hsp c0), fun j z hz f u hu => adv ad (j * 7) f u hsp (hxs j z hz f u hu)⟩
theorem all_mem {P : Program} {e : TypeId} : ∀ {ds : List (DataW H)} {d : DataW H}, d ∈ ds → ∀ n ∈ d.weights P e, n ∈ DataW.weightsAll P e ds
  | [], d, h, n, hn => by simp at h
  | x :: ds, d, h, n, hn => by
    simp only [DataW.weightsAll, List.mem_append]
    rcases List.mem_cons.1 h with rfl | h
    · exact .inl hn
    · exact .inr (all_mem h n hn)
theorem sz_of {x : DataW H} {t e : TypeId} {n b : Nat} (h : SzD x n) (ht : Tryd.prog.underlying t = some (.slice e)) (hb : Tryd.prog.bytesOf e = b) (hw : ∀ k ∈ x.weights Tryd.prog t, k ≤ reachBytes) : n * b ≤ 140737488351232 := by
  rcases h with rfl | ⟨es, rs, rfl, rfl⟩
  · omega
  · have h1 := hw ((es.length + rs.length) * Tryd.prog.bytesOf e) (by unfold DataW.weights; rw [ht]; simp)
    have e1 : reachBytes = 140737488351232 := by decide
    rw [hb, e1, Nat.add_mul] at h1
    omega
theorem open_threads {fuel : Nat} {cs : List Value} {x : DataW H × List MemPlace} (hf : DataW.trod enc Tryd.prog w base spare held fuel 23 cs = some x) (hw : ∀ k ∈ x.1.weights Tryd.prog 23, k ≤ reachBytes) : ∃ a n cap th, cs = [.slice a n cap] ∧ ThAt w a n th ∧ SzD x.1 n ∧ ∀ c ∈ th, c.length * 56 ≤ 140737488351232 := by
  rcases open_slice Tryd.underlying23 hf with ⟨hc, hx⟩ | ⟨ad, n, cap, m, k, D, Pl, hc, _, hl, _, hm, hx, hel⟩
  · exact ⟨none, 0, 0, [], hc, ⟨rfl, .inl rfl⟩, .inl rfl, fun c hc => by simp at hc⟩
  · have hle : n ≤ m := by rw [hm]; split <;> omega
    obtain ⟨xs, hxl, hxs⟩ := list_of n ([] : List In) (fun i c => ∃ a' n' c', w.cell? (ad.add i) = some (.slice a' n' c') ∧ n' ≤ c' ∧ CdAt w a' n' c ∧ c.length * 56 ≤ 140737488351232) (fun i hi => by
      obtain ⟨cs', h1, h2⟩ := hel i (by omega)
      rw [csl] at h1
      obtain ⟨_, hcl, hce⟩ := World.cells?_some h1
      obtain ⟨a', n', c', cd, he, hC, hn', hS⟩ := open_code h2
      subst he
      have h9 := hce 0 (by simp)
      rw [Nat.mul_one] at h9
      have e : (ad.add i).add 0 = ad.add i := by unfold Addr.add; split <;> simp_all
      rw [e] at h9
      refine ⟨cd, a', n', c', h9, hn', hC, ?_⟩
      have hDm : D i ∈ (List.range n).map D := List.mem_map.2 ⟨i, List.mem_range.2 hi, rfl⟩
      have hb := sz_of hS Tryd.underlying58 byn (fun k hk => hw k (by
        rw [hx]
        show k ∈ DataW.weights Tryd.prog 23 (.slice ((List.range n).map D) _)
        unfold DataW.weights
        rw [Tryd.underlying23]
        simp only [List.mem_cons, List.mem_append]
        exact .inr (.inl (all_mem hDm k hk))))
      rw [← hC.1]; exact hb)
    refine ⟨some ad, n, cap, xs, hc, ⟨hxl.symm, ?_⟩, .inr ⟨_, _, by rw [hx], by simp⟩, fun c hc => ?_⟩
    · by_cases hn : xs = []
      · exact .inl hn
      · have h0 : 0 < xs.length := List.length_pos_iff.2 hn
        obtain ⟨_, _, _, c0, -⟩ := hxs 0 _ (List.getElem?_eq_getElem h0)
        have hsp : ad.spot = none := (spn c0).resolve_right (by simp)
        refine .inr ⟨ad.block, ad.off, some_of hsp, World.block_lt_of_cell? w ⟨ad.block, ad.off + 0, none⟩ (ad0 ad 0 _ hsp c0), fun j c hj => ?_⟩
        obtain ⟨a', n', c', q1, q2, q3, -⟩ := hxs j c hj
        exact ⟨a', n', c', ad0 ad j _ hsp q1, q2, q3⟩
    · obtain ⟨j, hj⟩ := List.getElem?_of_mem hc
      obtain ⟨_, _, _, _, _, _, q⟩ := hxs j c hj
      exact q
theorem open_tns {fuel : Nat} {cs : List Value} {x : DataW H × List MemPlace} (hf : DataW.trod enc Tryd.prog w base spare held fuel 27 cs = some x) : ∃ a n cap ts, cs = [.slice a n cap] ∧ TnAt w a n ts ∧ SzD x.1 n := by
  rcases open_slice Tryd.underlying27 hf with ⟨hc, hx⟩ | ⟨ad, n, cap, m, k, D, Pl, hc, _, hl, _, hm, hx, hel⟩
  · exact ⟨none, 0, 0, [], hc, ⟨rfl, .inl rfl⟩, .inl rfl⟩
  · have hle : n ≤ m := by rw [hm]; split <;> omega
    obtain ⟨xs, hxl, hxs⟩ := list_of n (⟨0, false, 0⟩ : Tn) (fun i z => w.cell? ((ad.add (i * 3)).add 0) = some (.int .i64 z.th) ∧ w.cell? ((ad.add (i * 3)).add 1) = some (.bool z.ou) ∧ w.cell? ((ad.add (i * 3)).add 2) = some (.int .i64 z.ad)) (fun i hi => by
      obtain ⟨cs', h1, h2⟩ := hel i (by omega)
      rw [ctu] at h1
      obtain ⟨_, hcl, hce⟩ := World.cells?_some h1
      obtain ⟨z0, e0⟩ := fldI Tryd.underlying44 h2 0 _ rfl rfl ci Tryd.underlying3
      obtain ⟨z1, e1⟩ := fldB Tryd.underlying44 h2 1 _ rfl rfl cbo Tryd.underlying4
      obtain ⟨z2, e2⟩ := fldI Tryd.underlying44 h2 2 _ rfl rfl ci Tryd.underlying3
      exact ⟨⟨z0, z1, z2⟩, (hce 0 (by omega)).trans e0, (hce 1 (by omega)).trans e1, (hce 2 (by omega)).trans e2⟩)
    refine ⟨some ad, n, cap, xs, hc, ⟨hxl.symm, ?_⟩, .inr ⟨_, _, by rw [hx], by simp⟩⟩
    by_cases hn : xs = []
    · exact .inl hn
    · have h0 : 0 < xs.length := List.length_pos_iff.2 hn
      have c0 := (hxs 0 _ (List.getElem?_eq_getElem h0)).1
      rw [Nat.zero_mul] at c0
      have e00 : (ad.add 0).add 0 = ad.add 0 := by unfold Addr.add; split <;> simp_all
      rw [e00] at c0
      have hsp : ad.spot = none := (spn c0).resolve_right (by simp)
      refine .inr ⟨ad.block, ad.off, some_of hsp, World.block_lt_of_cell? w ⟨ad.block, ad.off + 0, none⟩ (ad0 ad 0 _ hsp c0), fun j z hz => ?_⟩
      obtain ⟨q0, q1, q2⟩ := hxs j z hz
      exact ⟨adv ad (j * 3) 0 _ hsp q0, adv ad (j * 3) 1 _ hsp q1, adv ad (j * 3) 2 _ hsp q2⟩
set_option maxRecDepth 100000 in
theorem open_lit {ts : List TypeId} {ds : List (DataW H)} {r : Reach} {b0 : Nat} {v : Value} {d : DataW H} {p : List MemPlace} (hv : Value.okWide Tryd.prog w r b0 25 v) (h : DataW.Trod enc Tryd.prog w base spare held 25 v d p) (hsz : (DataW.weightsEach Tryd.prog ts ds).all (· ≤ reachBytes) = true) (j : Nat) (ht : ts[j]? = some 25) (hd : ds[j]? = some d) :
    ∃ (aw : Option Addr) (nw cw : Nat) (ah : Option Addr) (nt ct : Nat) (l : Lt), v = .agg #[.slice aw nw cw, .slice ah nt ct] ∧ IsAt w aw nw l.ws ∧ ThAt w ah nt l.th ∧ nw * 8 ≤ 140737488351232 ∧ nt * 24 ≤ 140737488351232 ∧ ∀ c ∈ l.th, c.length * 56 ≤ 140737488351232 := by
  have hwt : ∀ k ∈ d.weights Tryd.prog 25, k ≤ reachBytes := fun k hk => by
    have := List.all_eq_true.1 hsz k (DataW.weights_mem_each ht hd k hk)
    simpa using this
  obtain ⟨cs, rfl, hcs⟩ := okWide_struct Tryd.underlying25 hv
  obtain ⟨fuel, hf⟩ := h
  obtain ⟨y0, y1, m, hx, hl, q0, q1⟩ := trod_struct2 Tryd.underlying25 hf
  have hd2 : d = .agg [y0.1, y1.1] := congrArg Prod.fst hx
  subst hd2
  have hw0 : ∀ k ∈ y0.1.weights Tryd.prog 22, k ≤ reachBytes := fun k hk => hwt k (by
    unfold DataW.weights
    rw [Tryd.underlying25]
    exact DataW.weights_mem_each (ts := [22, 23]) (ds := [y0.1, y1.1]) (j := 0) rfl rfl k hk)
  have hw1 : ∀ k ∈ y1.1.weights Tryd.prog 23, k ≤ reachBytes := fun k hk => hwt k (by
    unfold DataW.weights
    rw [Tryd.underlying25]
    exact DataW.weights_mem_each (ts := [22, 23]) (ds := [y0.1, y1.1]) (j := 1) rfl rfl k hk)
  obtain ⟨a0, n0, c0, ws, e0, hI, s0⟩ := open_ints q0
  obtain ⟨a1, n1, c1, th, e1, hT, s1, hc⟩ := open_threads q1 hw1
  have f0 : cs.toList[0]? = some (.slice a0 n0 c0) := at_of (t := 0) (by have h9 : (Value.agg cs).cells.toList = cs.toList := rfl; rw [h9] at e0; simpa [csi] using e0)
  have f1 : cs.toList[1]? = some (.slice a1 n1 c1) := at_of (t := 1) (by have h9 : (Value.agg cs).cells.toList = cs.toList := rfl; rw [h9] at e1; simpa [cst] using e1)
  have hl2 : cs.toList.length = 2 := by
    have h9 : Tryd.prog.cellsOf 25 = 2 := by kernel_rfl
    have h8 : (Value.agg cs).cells.toList.length = Tryd.prog.cellsOf 25 := hl
    rw [h9] at h8
    exact h8
  have hc2 : cs = #[.slice a0 n0 c0, .slice a1 n1 c1] := by
    apply Array.ext'
    apply List.ext_getElem?
    intro i
    match i with
    | 0 => exact f0
    | 1 => exact f1
    | i + 2 => rw [List.getElem?_eq_none (by omega)]; rfl
  subst hc2
  exact ⟨a0, n0, c0, a1, n1, c1, ⟨ws, th⟩, rfl, hI, hT, sz_of s0 Tryd.underlying22 byi hw0, sz_of s1 Tryd.underlying23 bys hw1, hc⟩
set_option maxRecDepth 100000 in
theorem open_trn {ts : List TypeId} {ds : List (DataW H)} {r : Reach} {b0 : Nat} {v : Value} {d : DataW H} {p : List MemPlace} (hv : Value.okWide Tryd.prog w r b0 27 v) (h : DataW.Trod enc Tryd.prog w base spare held 27 v d p) (hsz : (DataW.weightsEach Tryd.prog ts ds).all (· ≤ reachBytes) = true) (j : Nat) (ht : ts[j]? = some 27) (hd : ds[j]? = some d) :
    ∃ (a : Option Addr) (n c : Nat) (xs : List Tn), v = .slice a n c ∧ TnAt w a n xs ∧ n * 24 ≤ 140737488351232 := by
  have hwt : ∀ k ∈ d.weights Tryd.prog 27, k ≤ reachBytes := fun k hk => by
    have := List.all_eq_true.1 hsz k (DataW.weights_mem_each ht hd k hk)
    simpa using this
  obtain ⟨a, n, cap, rfl⟩ := okWide_slice Tryd.underlying27 hv
  obtain ⟨fuel, hf⟩ := h
  obtain ⟨a', n', cap', xs, hc, hm, hs⟩ := open_tns hf
  simp [Value.cells] at hc
  obtain ⟨rfl, rfl, rfl⟩ := hc
  exact ⟨_, _, _, xs, rfl, hm, sz_of hs Tryd.underlying27 byt hwt⟩
end
end Go.Proofs.YtmejblmeaipahaaDoor.Ts
/-
  TSO: opening a state and a turn that came in.
-/
namespace Go.Proofs.YtmejblmeaipahaaDoor.Ts
open Go.ChangeShapes Go.WideShapes Go.ChangeAt Go.RowKit Go.Deep Mr
set_option linter.unusedVariables false
theorem cpd : Tryd.prog.cellsOf 70 = 2 := by kernel_rfl
theorem csp : Tryd.prog.cellsOf 68 = 1 := by kernel_rfl
theorem csr : Tryd.prog.cellsOf 29 = 1 := by kernel_rfl
theorem c4i : Tryd.prog.cellsOf 67 = 4 := by kernel_rfl
theorem cbf : Tryd.prog.cellsOf 30 = 1 := by kernel_rfl
theorem byp : Tryd.prog.bytesOf 70 = 16 := by kernel_rfl
theorem byr : Tryd.prog.bytesOf 67 = 32 := by kernel_rfl
theorem bysp : Tryd.prog.bytesOf 68 = 24 := by kernel_rfl
section
variable {H : Type} {enc : TypeId × Value → H} {w : World} {base : Nat} {spare : Nat → Bool} {held : Bool}
theorem open_pds {fuel : Nat} {cs : List Value} {x : DataW H × List MemPlace} (hf : DataW.trod enc Tryd.prog w base spare held fuel 68 cs = some x) : ∃ a n cap b, cs = [.slice a n cap] ∧ PdAt w a n b ∧ n ≤ cap ∧ SzD x.1 n := by
  rcases open_slice Tryd.underlying68 hf with ⟨hc, hx⟩ | ⟨ad, n, cap, m, k, D, Pl, hc, _, hl, _, hm, hx, hel⟩
  · exact ⟨none, 0, 0, [], hc, ⟨rfl, .inl rfl⟩, Nat.le_refl _, .inl rfl⟩
  · have hle : n ≤ m := by rw [hm]; split <;> omega
    obtain ⟨xs, hxl, hxs⟩ := list_of n (⟨0, 0⟩ : Pd) (fun i z => w.cell? ((ad.add (i * 2)).add 0) = some (.int .i64 z.ad) ∧ w.cell? ((ad.add (i * 2)).add 1) = some (.int .i64 z.vl)) (fun i hi => by
      obtain ⟨cs', h1, h2⟩ := hel i (by omega)
      rw [cpd] at h1
      obtain ⟨_, hcl, hce⟩ := World.cells?_some h1
      obtain ⟨z0, e0⟩ := fldI Tryd.underlying70 h2 0 _ rfl rfl ci Tryd.underlying3
      obtain ⟨z1, e1⟩ := fldI Tryd.underlying70 h2 1 _ rfl rfl ci Tryd.underlying3
      exact ⟨⟨z0, z1⟩, (hce 0 (by omega)).trans e0, (hce 1 (by omega)).trans e1⟩)
    refine ⟨some ad, n, cap, xs, hc, ⟨hxl.symm, ?_⟩, hl, .inr ⟨_, _, by rw [hx], by simp⟩⟩
    by_cases hn : xs = []
    · exact .inl hn
    · have h0 : 0 < xs.length := List.length_pos_iff.2 hn
      have c0 := (hxs 0 _ (List.getElem?_eq_getElem h0)).1
      rw [Nat.zero_mul] at c0
      have e00 : (ad.add 0).add 0 = ad.add 0 := by unfold Addr.add; split <;> simp_all
      rw [e00] at c0
      have hsp : ad.spot = none := (spn c0).resolve_right (by simp)
      refine .inr ⟨ad.block, ad.off, some_of hsp, World.block_lt_of_cell? w ⟨ad.block, ad.off + 0, none⟩ (ad0 ad 0 _ hsp c0), fun j z hz => ?_⟩
      obtain ⟨q0, q1⟩ := hxs j z hz
      exact ⟨adv ad (j * 2) 0 _ hsp q0, adv ad (j * 2) 1 _ hsp q1⟩
theorem open_regs {fuel : Nat} {cs : List Value} {x : DataW H × List MemPlace} (hf : DataW.trod enc Tryd.prog w base spare held fuel 29 cs = some x) : ∃ a n cap r, cs = [.slice a n cap] ∧ RgAt w a n r ∧ SzD x.1 n := by
  rcases open_slice Tryd.underlying29 hf with ⟨hc, hx⟩ | ⟨ad, n, cap, m, k, D, Pl, hc, _, hl, _, hm, hx, hel⟩
  · exact ⟨none, 0, 0, [], hc, ⟨rfl, .inl rfl⟩, .inl rfl⟩
  · have hle : n ≤ m := by rw [hm]; split <;> omega
    obtain ⟨xs, hxl, hxs⟩ := list_of n noRg (fun i z => ∀ q, q < 4 → w.cell? ((ad.add (i * 4)).add q) = some (.int .i64 (z.get q))) (fun i hi => by
      obtain ⟨cs', h1, h2⟩ := hel i (by omega)
      rw [c4i] at h1
      obtain ⟨_, hcl, hce⟩ := World.cells?_some h1
      obtain ⟨ys, m', _, _, hl', hyl, hyel⟩ := DataW.trod_array Tryd.underlying67 h2
      have key : ∀ q, q < 4 → ∃ z, cs'[q]? = some (.int .i64 z) := fun q hq => by
        have h9 := hyel q hq
        rw [ci, Nat.mul_one, List.getElem?_eq_getElem (by omega)] at h9
        obtain ⟨z, hz, _, _⟩ := DataW.trod_int Tryd.underlying3 h9
        exact ⟨z, at_of hz⟩
      obtain ⟨z0, e0⟩ := key 0 (by decide)
      obtain ⟨z1, e1⟩ := key 1 (by decide)
      obtain ⟨z2, e2⟩ := key 2 (by decide)
      obtain ⟨z3, e3⟩ := key 3 (by decide)
      refine ⟨⟨z0, z1, z2, z3⟩, fun q hq => ?_⟩
      match q, hq with
      | 0, _ => exact (hce 0 (by omega)).trans e0
      | 1, _ => exact (hce 1 (by omega)).trans e1
      | 2, _ => exact (hce 2 (by omega)).trans e2
      | 3, _ => exact (hce 3 (by omega)).trans e3)
    refine ⟨some ad, n, cap, xs, hc, ⟨hxl.symm, ?_⟩, .inr ⟨_, _, by rw [hx], by simp⟩⟩
    by_cases hn : xs = []
    · exact .inl hn
    · have h0 : 0 < xs.length := List.length_pos_iff.2 hn
      have c0 := hxs 0 _ (List.getElem?_eq_getElem h0) 0 (by decide)
      rw [Nat.zero_mul] at c0
      have e00 : (ad.add 0).add 0 = ad.add 0 := by unfold Addr.add; split <;> simp_all
      rw [e00] at c0
      have hsp : ad.spot = none := (spn c0).resolve_right (by simp)
      refine .inr ⟨ad.block, ad.off, some_of hsp, World.block_lt_of_cell? w ⟨ad.block, ad.off + 0, none⟩ (ad0 ad 0 _ hsp c0), fun j z hz => ?_⟩
      have q := hxs j z hz
      exact ⟨adv ad (j * 4) 0 _ hsp (q 0 (by decide)), adv ad (j * 4) 1 _ hsp (q 1 (by decide)), adv ad (j * 4) 2 _ hsp (q 2 (by decide)), adv ad (j * 4) 3 _ hsp (q 3 (by decide))⟩
theorem open_bufs {fuel : Nat} {cs : List Value} {x : DataW H × List MemPlace} (hf : DataW.trod enc Tryd.prog w base spare held fuel 30 cs = some x) (hw : ∀ k ∈ x.1.weights Tryd.prog 30, k ≤ reachBytes) : ∃ a n cap b, cs = [.slice a n cap] ∧ BfAt w a n b ∧ SzD x.1 n ∧ ∀ c ∈ b, c.length * 16 ≤ 140737488351232 := by
  rcases open_slice Tryd.underlying30 hf with ⟨hc, hx⟩ | ⟨ad, n, cap, m, k, D, Pl, hc, _, hl, _, hm, hx, hel⟩
  · exact ⟨none, 0, 0, [], hc, ⟨rfl, .inl rfl⟩, .inl rfl, fun c hc => by simp at hc⟩
  · have hle : n ≤ m := by rw [hm]; split <;> omega
    obtain ⟨xs, hxl, hxs⟩ := list_of n ([] : List Pd) (fun i c => ∃ a' n' c', w.cell? (ad.add i) = some (.slice a' n' c') ∧ n' ≤ c' ∧ PdAt w a' n' c ∧ c.length * 16 ≤ 140737488351232) (fun i hi => by
      obtain ⟨cs', h1, h2⟩ := hel i (by omega)
      rw [csp] at h1
      obtain ⟨_, hcl, hce⟩ := World.cells?_some h1
      obtain ⟨a', n', c', cd, he, hC, hn', hS⟩ := open_pds h2
      subst he
      have h9 := hce 0 (by simp)
      rw [Nat.mul_one] at h9
      have e : (ad.add i).add 0 = ad.add i := by unfold Addr.add; split <;> simp_all
      rw [e] at h9
      refine ⟨cd, a', n', c', h9, hn', hC, ?_⟩
      have hDm : D i ∈ (List.range n).map D := List.mem_map.2 ⟨i, List.mem_range.2 hi, rfl⟩
      have hb := sz_of hS Tryd.underlying68 byp (fun k hk => hw k (by
        rw [hx]
        show k ∈ DataW.weights Tryd.prog 30 (.slice ((List.range n).map D) _)
        unfold DataW.weights
        rw [Tryd.underlying30]
        simp only [List.mem_cons, List.mem_append]
        exact .inr (.inl (all_mem hDm k hk))))
      rw [← hC.1]; exact hb)
    refine ⟨some ad, n, cap, xs, hc, ⟨hxl.symm, ?_⟩, .inr ⟨_, _, by rw [hx], by simp⟩, fun c hc => ?_⟩
    · by_cases hn : xs = []
      · exact .inl hn
      · have h0 : 0 < xs.length := List.length_pos_iff.2 hn
        obtain ⟨_, _, _, c0, -⟩ := hxs 0 _ (List.getElem?_eq_getElem h0)
        have hsp : ad.spot = none := (spn c0).resolve_right (by simp)
        refine .inr ⟨ad.block, ad.off, some_of hsp, World.block_lt_of_cell? w ⟨ad.block, ad.off + 0, none⟩ (ad0 ad 0 _ hsp c0), fun j c hj => ?_⟩
        obtain ⟨a', n', c', q1, q2, q3, -⟩ := hxs j c hj
        exact ⟨a', n', c', ad0 ad j _ hsp q1, q2, q3⟩
    · obtain ⟨j, hj⟩ := List.getElem?_of_mem hc
      obtain ⟨_, _, _, _, _, _, q⟩ := hxs j c hj
      exact q
set_option maxRecDepth 100000 in
theorem open_sv {ts : List TypeId} {ds : List (DataW H)} {r : Reach} {b0 : Nat} {v : Value} {d : DataW H} {p : List MemPlace} (hv : Value.okWide Tryd.prog w r b0 32 v) (h : DataW.Trod enc Tryd.prog w base spare held 32 v d p) (hsz : (DataW.weightsEach Tryd.prog ts ds).all (· ≤ reachBytes) = true) (j : Nat) (ht : ts[j]? = some 32) (hd : ds[j]? = some d) :
    ∃ (a0 : Option Addr) (n0 k0 : Nat) (a1 : Option Addr) (n1 k1 : Nat) (a2 : Option Addr) (n2 k2 : Nat) (a3 : Option Addr) (n3 k3 : Nat) (s : Sv), v = .agg #[.slice a0 n0 k0, .slice a1 n1 k1, .slice a2 n2 k2, .slice a3 n3 k3] ∧ IsAt w a0 n0 s.ws ∧ RgAt w a1 n1 s.rg ∧ IsAt w a2 n2 s.pl ∧ BfAt w a3 n3 s.bf ∧ n0 * 8 ≤ 140737488351232 ∧ n1 * 32 ≤ 140737488351232 ∧ n2 * 8 ≤ 140737488351232 ∧ n3 * 24 ≤ 140737488351232 ∧ ∀ b ∈ s.bf, b.length * 16 ≤ 140737488351232 := by
  have hwt : ∀ k ∈ d.weights Tryd.prog 32, k ≤ reachBytes := fun k hk => by
    have := List.all_eq_true.1 hsz k (DataW.weights_mem_each ht hd k hk)
    simpa using this
  obtain ⟨cs, rfl, hcs⟩ := okWide_struct Tryd.underlying32 hv
  obtain ⟨fuel, hf⟩ := h
  obtain ⟨xs, m, _, hx, hl, hxl, hel⟩ := DataW.trod_struct Tryd.underlying32 hf
  have hxl4 : xs.length = 4 := hxl
  match xs, hxl4, hx, hel with
  | [y0, y1, y2, y3], _, hx, hel =>
  have q0 := hel 0 _ rfl
  have q1 := hel 1 _ rfl
  have q2 := hel 2 _ rfl
  have q3 := hel 3 _ rfl
  have hd2 : d = .agg [y0.1, y1.1, y2.1, y3.1] := congrArg Prod.fst hx
  subst hd2
  have hwk : ∀ (j : Nat) (t : TypeId) (y : DataW H), [22, 29, 22, 30][j]? = some t → [y0.1, y1.1, y2.1, y3.1][j]? = some y → ∀ k ∈ y.weights Tryd.prog t, k ≤ reachBytes := fun j t y h1 h2 k hk => hwt k (by
    unfold DataW.weights
    rw [Tryd.underlying32]
    exact DataW.weights_mem_each (ts := [22, 29, 22, 30]) (ds := [y0.1, y1.1, y2.1, y3.1]) (j := j) h1 h2 k hk)
  obtain ⟨a0, n0, c0, x0, e0, h0, s0⟩ := open_ints q0
  obtain ⟨a1, n1, c1, x1, e1, h1, s1⟩ := open_regs q1
  obtain ⟨a2, n2, c2, x2, e2, h2, s2⟩ := open_ints q2
  obtain ⟨a3, n3, c3, x3, e3, h3, s3, hb⟩ := open_bufs q3 (hwk 3 _ _ rfl rfl)
  have h9 : (Value.agg cs).cells.toList = cs.toList := rfl
  rw [h9] at e0 e1 e2 e3
  have f0 : cs.toList[0]? = some (.slice a0 n0 c0) := at_of (t := 0) (by simpa [csi] using e0)
  have f1 : cs.toList[1]? = some (.slice a1 n1 c1) := at_of (t := 1) (by simpa [csr] using e1)
  have f2 : cs.toList[2]? = some (.slice a2 n2 c2) := at_of (t := 2) (by simpa [csi] using e2)
  have f3 : cs.toList[3]? = some (.slice a3 n3 c3) := at_of (t := 3) (by simpa [cbf] using e3)
  have hl2 : cs.toList.length = 4 := by
    have h9 : Tryd.prog.cellsOf 32 = 4 := by kernel_rfl
    have h8 : (Value.agg cs).cells.toList.length = Tryd.prog.cellsOf 32 := hl
    rw [h9] at h8
    exact h8
  have hc2 : cs = #[.slice a0 n0 c0, .slice a1 n1 c1, .slice a2 n2 c2, .slice a3 n3 c3] := by
    apply Array.ext'
    apply List.ext_getElem?
    intro i
    match i with
    | 0 => exact f0
    | 1 => exact f1
    | 2 => exact f2
    | 3 => exact f3
    | i + 4 => rw [List.getElem?_eq_none (by omega)]; rfl
  subst hc2
  exact ⟨a0, n0, c0, a1, n1, c1, a2, n2, c2, a3, n3, c3, ⟨x0, x1, x2, x3⟩, rfl, h0, h1, h2, h3, sz_of s0 Tryd.underlying22 byi (hwk 0 _ _ rfl rfl), sz_of s1 Tryd.underlying29 byr (hwk 1 _ _ rfl rfl), sz_of s2 Tryd.underlying22 byi (hwk 2 _ _ rfl rfl), sz_of s3 Tryd.underlying30 bysp (hwk 3 _ _ rfl rfl), hb⟩
set_option maxRecDepth 100000 in
theorem open_turn {r : Reach} {b0 : Nat} {v : Value} {d : DataW H} {p : List MemPlace} (hv : Value.okWide Tryd.prog w r b0 44 v) (h : DataW.Trod enc Tryd.prog w base spare held 44 v d p) : ∃ t : Tn, v = tnV t := by
  obtain ⟨cs, rfl, hcs⟩ := okWide_struct Tryd.underlying44 hv
  obtain ⟨fuel, hf⟩ := h
  obtain ⟨z0, e0⟩ := fldI Tryd.underlying44 hf 0 _ rfl rfl ci Tryd.underlying3
  obtain ⟨z1, e1⟩ := fldB Tryd.underlying44 hf 1 _ rfl rfl cbo Tryd.underlying4
  obtain ⟨z2, e2⟩ := fldI Tryd.underlying44 hf 2 _ rfl rfl ci Tryd.underlying3
  have h9 : (Value.agg cs).cells.toList = cs.toList := rfl
  rw [h9] at e0 e1 e2
  have hl2 : cs.toList.length = 3 := by
    have h8 : Tryd.prog.cellsOf 44 = 3 := by kernel_rfl
    rw [h8] at hcs
    simpa using hcs
  refine ⟨⟨z0, z1, z2⟩, ?_⟩
  have hc2 : cs = #[.int .i64 z0, .bool z1, .int .i64 z2] := by
    apply Array.ext'
    apply List.ext_getElem?
    intro i
    match i with
    | 0 => exact e0
    | 1 => exact e1
    | 2 => exact e2
    | i + 3 => rw [List.getElem?_eq_none (by omega)]; rfl
  rw [hc2]; rfl
end
end Go.Proofs.YtmejblmeaipahaaDoor.Ts
