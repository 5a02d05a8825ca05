import Derived.Test.YtnapnhmmopajfaaGreatJ36
import Derived.Test.YtnapnhmmopajfaaGreatJ37
/-
  DequePlays: the row that is handed in, and one more.
-/
namespace Go.Proofs.YtnapnhmmopajfaaGreat.Rd
open Go.RowKit Go.Shelf Mr Me Ma Gm Dm Dq
set_option linter.unusedVariables false
def Mv.cs (m : Mv) : List Value := [.int .i64 m.th, .int .i64 m.op, .int .i64 m.arg, .int .i64 m.data]
def mvc (l : List Mv) : List Value := l.flatMap Mv.cs
theorem mv_len (m : Mv) : (Mv.cs m).length = 4 := rfl
theorem mvc_len (l : List Mv) : (mvc l).length = l.length * 4 := flat_length (f := Mv.cs) mv_len l
theorem mvc_at (l : List Mv) (i t : Nat) (hi : i < l.length) (ht : t < 4) : (mvc l)[i * 4 + t]? = (Mv.cs (l[i]?.getD noMv))[t]? := by
  have h : l[i]? = some l[i] := List.getElem?_eq_getElem hi
  rw [mvc, flat_get (f := Mv.cs) mv_len l i t _ h ht, h]; rfl
theorem mvc_one (l : List Mv) : ∀ u ∈ mvc l, u.oneCell' = true := by
  intro u hu
  obtain ⟨x, _, hx⟩ := List.mem_flatMap.1 hu
  simp only [Mv.cs, List.mem_cons, List.not_mem_nil, or_false] at hx
  rcases hx with rfl | rfl | rfl | rfl <;> rfl
theorem src_mv {w : World} {am : Option Addr} {nm : Nat} {ms : List Mv} (h : MvAt w am nm ms) : (am = none → nm = 0) ∧ ∀ W, Below w.heap.size w W → ∀ ad, am = some ad → ∀ j u, (mvc ms)[j]? = some u → W.cell? (ad.add j) = some u := by
  obtain ⟨hn, h⟩ := h
  rcases h with rfl | ⟨b, off, rfl, hb, hc⟩
  · exact ⟨fun _ => hn, fun W hB ad _ j u hu => by simp [mvc] at hu⟩
  · refine ⟨fun e => (by cases e), fun W hB ad he j u hu => ?_⟩
    cases he
    have hj : j < ms.length * 4 := by rw [← mvc_len]; exact (List.getElem?_eq_some_iff.1 hu).1
    have hadd : (⟨b, off, none⟩ : Addr).add j = ⟨b, off + j, none⟩ := by unfold Addr.add; split <;> simp_all
    have e : j = (j / 4) * 4 + j % 4 := by omega
    rw [e, mvc_at ms _ _ (by omega) (by omega)] at hu
    obtain ⟨c0, c1, c2, c3⟩ := hc (j / 4) (by omega)
    rw [hadd]
    refine (hB.cell (p := ⟨b, off + j, none⟩) hb).trans ?_
    have hm : j % 4 = 0 ∨ j % 4 = 1 ∨ j % 4 = 2 ∨ j % 4 = 3 := by omega
    rcases hm with hm | hm | hm | hm <;> rw [hm] at hu <;> rw [e, hm, ← Nat.add_assoc] <;> rw [← hu] <;> assumption
/-- The row of one's own: the moves, and one more. -/
def Gvn (W : World) (N g o nm : Nat) (ms : List Mv) : Prop := N ≤ g ∧ g < W.heap.size ∧ MvAt W (some ⟨g, o, none⟩) nm ms ∧ W.cell? ⟨g, o + nm * 4, none⟩ = some (.int .i64 77)
theorem Gvn.below {W W' : World} {N g o nm : Nat} {ms : List Mv} (h : Gvn W N g o nm ms) (hB : Below W.heap.size W W') : Gvn W' N g o nm ms :=
  ⟨h.1, Nat.lt_of_lt_of_le h.2.1 hB.size, h.2.2.1.below hB, (hB.cell (p := ⟨g, o + nm * 4, none⟩) h.2.1).trans h.2.2.2⟩
theorem gvn_of {W : World} {S : Nat → Prop} {N nm cap : Nat} {b : Option Addr} {ms : List Mv} (hn : nm = ms.length) (h : Md.Own W S 27 4 (.slice b (nm + 1) cap) (nm + 1) (mvc ms ++ [.int .i64 77, .int .i64 0, .int .i64 0, .int .i64 0])) (hS : ∀ k, S k → N ≤ k) : ∃ g o, b = some ⟨g, o, none⟩ ∧ nm + 1 ≤ cap ∧ Gvn W N g o nm ms := by
  obtain ⟨g, o, cap', cur, hv, hc, hm, hSg, hg, hs, hx⟩ := h.there (by omega)
  injection hv with e1 e2 e3
  subst e3
  have hcell := Md.own_cells hg hx
  have hgl : g < W.heap.size := (Array.getElem?_eq_some_iff.1 hg).1
  have hl := mvc_len ms
  refine ⟨g, o, e1, hc, hS g hSg, hgl, ⟨hn, .inr ⟨g, o, rfl, hgl, fun j hj => ?_⟩⟩, ?_⟩
  · have hc4 : ∀ t, t < 4 → W.cell? ⟨g, o + (j * 4 + t), none⟩ = (Mv.cs (ms[j]?.getD noMv))[t]? := fun t ht => by
      have e := mvc_at ms j t hj ht
      obtain ⟨u, hu⟩ : ∃ u, (Mv.cs (ms[j]?.getD noMv))[t]? = some u := ⟨_, List.getElem?_eq_getElem (by rw [mv_len]; exact ht)⟩
      rw [hu]
      refine hcell _ _ ?_
      rw [List.getElem?_append_left (by rw [hl]; omega), e, hu]
    refine ⟨?_, ?_, ?_, ?_⟩
    · exact hc4 0 (by decide)
    · exact hc4 1 (by decide)
    · exact hc4 2 (by decide)
    · exact hc4 3 (by decide)
  · refine hcell (nm * 4) _ ?_
    rw [List.getElem?_append_right (by rw [hl]; omega), hl, hn]
    simp
theorem info_mvR : (Tryz.prog.info? 27).map (fun i => (i.zero, i.size, i.bytes)) = some (some (.agg #[.int .i64 0, .int .i64 0, .int .i64 0, .int .i64 0]), 4, 32) := by kernel_rfl
end Go.Proofs.YtnapnhmmopajfaaGreat.Rd
/-
  DequePlays: the law's world.
-/
namespace Go.Proofs.YtnapnhmmopajfaaGreat.Rd
open Go.RowKit Go.Shelf Mr Me Ma Gm Dm Dq
set_option linter.unusedVariables false
set_option linter.unusedSimpArgs false
set_option maxRecDepth 100000
/-- The law's world: the box of d, the row of one's own. -/
structure Bw (w : World) (th rm : Int) (g o nm : Nat) (ms : List Mv) (W : World) : Prop where
  b : Below w.heap.size w W
  d : W.heap[w.heap.size]? = some (dB th rm)
  v : Gvn W (w.heap.size + 1) g o nm ms
theorem Bw.below {w W W' : World} {th rm : Int} {g o nm : Nat} {ms : List Mv} (h : Bw w th rm g o nm ms W) (hB : Below W.heap.size W W') : Bw w th rm g o nm ms W' :=
  ⟨h.b.trans (hB.mono h.b.size), (hB.block _ (Array.getElem?_eq_some_iff.1 h.d).1).trans h.d, h.v.below hB⟩
theorem Bw.lt {w W : World} {th rm : Int} {g o nm : Nat} {ms : List Mv} (h : Bw w th rm g o nm ms W) : w.heap.size < W.heap.size := (Array.getElem?_eq_some_iff.1 h.d).1
/-- A run in its box. -/
structure Rn (w W : World) (p : Nat) (cls : List Cl) (lg : List Acc) (ws : List Int) : Prop where
  ex : ∃ v1 v2 v3 v4, W.heap[p]? = some (.cells #[v1, v2, v3, v4] 33 (0, 0)) ∧ Has W (fun k => w.heap.size < k) 61 9 v1 cls.length (clc cls) ∧ Has W (fun k => w.heap.size < k) 65 7 v2 lg.length (lgc lg) ∧ Has W (fun k => w.heap.size < k) 68 5 v3 0 [] ∧ Has W (fun k => w.heap.size < k) 63 1 v4 ws.length (wrd ws)
  lo : w.heap.size < p
theorem Rn.below {w W W' : World} {p : Nat} {cls : List Cl} {lg : List Acc} {ws : List Int} (h : Rn w W p cls lg ws) (hB : Below W.heap.size W W') : Rn w W' p cls lg ws := by
  obtain ⟨⟨v1, v2, v3, v4, h0, h1, h2, h3, h4⟩, hl⟩ := h
  exact ⟨⟨v1, v2, v3, v4, (hB.block _ (Array.getElem?_eq_some_iff.1 h0).1).trans h0, h1.below hB, h2.below hB, h3.below hB, h4.below hB⟩, hl⟩
theorem rel_a {w w3 w4 : World} {th rm : Int} {g o nm : Nat} {ms : List Mv} {cls : List Cl} {lg : List Acc} {ws : List Int} {v1 v2 v3 v4 : Value} (h : Bw w th rm g o nm ms w3) (hB : Below w3.heap.size w3 w4)
    (h1 : Has w4 (fun k => w3.heap.size ≤ k) 61 9 v1 cls.length (clc cls)) (h2 : Has w4 (fun k => w3.heap.size ≤ k) 65 7 v2 lg.length (lgc lg)) (h3 : Has w4 (fun k => w3.heap.size ≤ k) 68 5 v3 0 []) (h4 : Has w4 (fun k => w3.heap.size ≤ k) 63 1 v4 ws.length (wrd ws)) :
    Bw w th rm g o nm ms (w4.alloc (.cells #[v1, v2, v3, v4] 33)) ∧ Rn w (w4.alloc (.cells #[v1, v2, v3, v4] 33)) w4.heap.size cls lg ws := by
  have hl := h.lt
  have hs := hB.size
  have hB' : Below w3.heap.size w3 (w4.alloc (.cells #[v1, v2, v3, v4] 33)) := hB.alloc hs _
  refine ⟨h.below hB', ⟨v1, v2, v3, v4, heap_alloc_new w4 _, (h1.alloc _).mono (fun k hk => by omega), (h2.alloc _).mono (fun k hk => by omega), (h3.alloc _).mono (fun k hk => by omega), (h4.alloc _).mono (fun k hk => by omega)⟩, by omega⟩
theorem rel_b {w w3 w4 : World} {th rm : Int} {g o nm : Nat} {ms : List Mv} {cls : List Cl} {lg : List Acc} {ws : List Int} {v1 v2 v3 v4 : Value} (h : Bw w th rm g o nm ms w3) (hB : Below (w3.heap.size + 1) (w3.alloc rnO).drew w4)
    (h1 : Has w4 (fun k => w3.heap.size + 1 ≤ k) 61 9 v1 cls.length (clc cls)) (h2 : Has w4 (fun k => w3.heap.size + 1 ≤ k) 65 7 v2 lg.length (lgc lg)) (h3 : Has w4 (fun k => w3.heap.size + 1 ≤ k) 68 5 v3 0 []) (h4 : Has w4 (fun k => w3.heap.size + 1 ≤ k) 63 1 v4 ws.length (wrd ws)) :
    Bw w th rm g o nm ms ((((w4.setCell ⟨w3.heap.size, 0, none⟩ v1).setCell ⟨w3.heap.size, 1, none⟩ v2).setCell ⟨w3.heap.size, 2, none⟩ v3).setCell ⟨w3.heap.size, 3, none⟩ v4) ∧ Rn w ((((w4.setCell ⟨w3.heap.size, 0, none⟩ v1).setCell ⟨w3.heap.size, 1, none⟩ v2).setCell ⟨w3.heap.size, 2, none⟩ v3).setCell ⟨w3.heap.size, 3, none⟩ v4) w3.heap.size cls lg ws := by
  have hl := h.lt
  have hb4 : w4.heap[w3.heap.size]? = some rnO := (hB.block _ (by omega)).trans (heap_alloc_new w3 rnO)
  have hB4 : Below w3.heap.size w3 w4 := ((Below.refl w3.heap.size w3).alloc (Nat.le_refl _) rnO).drew.trans (hB.mono (by omega))
  obtain ⟨W5, hW5⟩ : ∃ W5, (((w4.setCell ⟨w3.heap.size, 0, none⟩ v1).setCell ⟨w3.heap.size, 1, none⟩ v2).setCell ⟨w3.heap.size, 2, none⟩ v3).setCell ⟨w3.heap.size, 3, none⟩ v4 = W5 := ⟨_, rfl⟩
  rw [hW5]
  have hb5 : W5.heap[w3.heap.size]? = some (.cells #[v1, v2, v3, v4] 33 (0, 0)) := by
    unfold rnO at hb4
    rw [← hW5, setBlk (setBlk (setBlk (setBlk hb4 0 _) 1 _) 2 _) 3 _]; rfl
  have ho5 : ∀ k, k ≠ w3.heap.size → W5.heap[k]? = w4.heap[k]? := fun k hk => by
    rw [← hW5, Below.heap_setCell _ _ _ k hk, Below.heap_setCell _ _ _ k hk, Below.heap_setCell _ _ _ k hk, Below.heap_setCell _ _ _ k hk]
  have hB5 : Below w3.heap.size w3 W5 := by
    rw [← hW5]
    exact (((hB4.setCell (p := ⟨w3.heap.size, 0, none⟩) (Nat.le_refl _) _).setCell (p := ⟨w3.heap.size, 1, none⟩) (Nat.le_refl _) _).setCell (p := ⟨w3.heap.size, 2, none⟩) (Nat.le_refl _) _).setCell (p := ⟨w3.heap.size, 3, none⟩) (Nat.le_refl _) _
  have keep : ∀ {e size m : Nat} {v : Value} {xs : List Value}, Has w4 (fun k => w3.heap.size + 1 ≤ k) e size v m xs → Has W5 (fun k => w.heap.size < k) e size v m xs := fun {e size m v xs} hh =>
    hh.kept (fun k hk => ho5 k (fun e' => by have := (hh.lt k hk).1; omega)) (fun k hk => by have := (hh.lt k hk).1; omega)
  exact ⟨h.below hB5, ⟨v1, v2, v3, v4, hb5, keep h1, keep h2, keep h3, keep h4⟩, hl⟩
theorem num_r (x : Int) (w : World) : Calls Tryz.prog 6 #[.int .i64 x] w fun e w' => e = .returned (.int .i64 x) ∧ w' = w := by
  go_enter Tryz.func6, Tryz.ntmps6
  go_wp2
  go_ret
  exact ⟨rfl, rfl⟩
end Go.Proofs.YtnapnhmmopajfaaGreat.Rd
