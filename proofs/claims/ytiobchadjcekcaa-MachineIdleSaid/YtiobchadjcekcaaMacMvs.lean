/-
  ROWS of moves.
-/
import Derived.Test.YtiobchadjcekcaaMacKp2
namespace Go.Proofs.Ytiobchadjcekcaa.Ma
open Go.RowKit Go.Shelf Mr Me
def Mv.cells (m : Mv) : List Value := [.int .i64 m.th, .int .i64 m.op, .int .i64 m.arg, .int .i64 m.data]
def mvc (ms : List Mv) : List Value := ms.flatMap Mv.cells
theorem mv_len (m : Mv) : m.cells.length = 4 := rfl
theorem mvc_length (ms : List Mv) : (mvc ms).length = ms.length * 4 := flat_length mv_len ms
theorem mvc_append (l k : List Mv) : mvc (l ++ k) = mvc l ++ mvc k := by simp [mvc]
theorem mvc_one (ms : List Mv) : ∀ u ∈ mvc ms, u.oneCell' = true := by
  intro u hu
  simp only [mvc, List.mem_flatMap] at hu
  obtain ⟨m, _, hm⟩ := hu
  simp only [Mv.cells, List.mem_cons, List.not_mem_nil, or_false] at hm
  rcases hm with rfl | rfl | rfl | rfl <;> rfl
theorem info_move : (Try.prog.info? 34).map (fun i => (i.zero, i.size, i.bytes)) = some (some (.agg #[.int .i64 0, .int .i64 0, .int .i64 0, .int .i64 0]), 4, 32) := by kernel_rfl
theorem MvAt.news {W : World} {ad : Addr} {n : Nat} {ms : List Mv} (h : MvAt W (some ad) n ms) : ∀ j u, (mvc ms)[j]? = some u → W.cell? (ad.add j) = some u := by
  intro j u hu
  have hj : j < ms.length * 4 := by have := (List.getElem?_eq_some_iff.1 hu).1; rw [mvc_length] at this; exact this
  rcases h.2 with h0 | ⟨b, off, h1, hb, hc⟩
  · rw [h0] at hj; simp at hj
  · cases h1
    have hadd : ∀ j, (⟨b, off, none⟩ : Addr).add j = ⟨b, off + j, none⟩ := fun j => by unfold Addr.add; split <;> simp_all
    obtain ⟨q, r, rfl, hr⟩ : ∃ q r, j = q * 4 + r ∧ r < 4 := ⟨j / 4, j % 4, by omega, by omega⟩
    have hq : q < ms.length := by omega
    rw [mvc, flat_get mv_len ms q r _ (List.getElem?_eq_getElem hq) hr] at hu
    obtain ⟨c0, c1, c2, c3⟩ := hc q hq
    have e : ms[q]?.getD noMv = ms[q] := by simp [hq]
    rw [e] at c0 c1 c2 c3
    rw [hadd]
    rcases r with _ | _ | _ | _ | r
    · simp only [Mv.cells, List.getElem?_cons_zero, Option.some.injEq] at hu; rw [← hu]; exact c0
    · simp only [Mv.cells, List.getElem?_cons_succ, List.getElem?_cons_zero, Option.some.injEq] at hu; rw [← hu]; exact c1
    · simp only [Mv.cells, List.getElem?_cons_succ, List.getElem?_cons_zero, Option.some.injEq] at hu; rw [← hu]; exact c2
    · simp only [Mv.cells, List.getElem?_cons_succ, List.getElem?_cons_zero, Option.some.injEq] at hu; rw [← hu]; exact c3
    · omega
theorem has_mvat {W : World} {S : Nat → Prop} {a : Option Addr} {n cap : Nat} {ms : List Mv} (h : Has W S 34 4 (.slice a n cap) n (mvc ms)) : MvAt W a n ms := by
  have hl := h.1
  rw [mvc_length] at hl
  have hn : n = ms.length := by omega
  refine ⟨hn, ?_⟩
  by_cases h0 : ms.length = 0
  · exact .inl (List.eq_nil_of_length_eq_zero h0)
  · obtain ⟨g, cap', hg, _, hgl, _⟩ := h.there (by omega)
    cases hg
    refine .inr ⟨g, 0, rfl, hgl, fun j hj => ?_⟩
    have e : ms[j]?.getD noMv = ms[j] := by simp [hj]
    have hce : ∀ t (_ : t < 4) u, (ms[j]).cells[t]? = some u → W.cell? ⟨g, j * 4 + t, none⟩ = some u := fun t ht u hu => h.cells (g := g) rfl (j * 4 + t) u (by rw [mvc, flat_get mv_len ms j t _ (List.getElem?_eq_getElem hj) ht]; exact hu)
    rw [e, Nat.zero_add]
    exact ⟨hce 0 (by decide) _ rfl, hce 1 (by decide) _ rfl, hce 2 (by decide) _ rfl, hce 3 (by decide) _ rfl⟩
theorem run_append_nomvs (w : World) (c : Nat) : (Builtin.append_ #[22, 22] 22 #[.slice none 0 0, .slice none 0 c]).run Try.prog w = .ok (.slice none 0 0) w := by
  obtain ⟨i0, hi0, hz0, hz1, hz2⟩ := info_parts info_move
  simp [Builtin.append_, run_underlying Try.underlying22, sizeOf, typeInfo, hi0, Builtin.lenOf, Builtin.firstCells]
theorem wpList_append_nomvs {w : World} {ops : Array Oper} {rest : List Oper} {o : Oper} {a : Act} {Q : Exit → Act → World → Prop} (hgd : o.guard = none) (s x : Operand) (c : Nat)
    (ho : o.op = .call { callee := .builtin .append, args := #[s, x], argTypes := #[22, 22] }) (hty : o.type = 22) (hs : a.eval s = .slice none 0 0) (hx : a.eval x = .slice none 0 c)
    (h : wpList Try.prog ops Q rest (a.put o.dst (.slice none 0 0)) w) : wpList Try.prog ops Q (o :: rest) a w :=
  wpList_plain hgd fun _ hK => by
    have hr := run_append_nomvs w c
    unfold Oper.wp execOp
    simp only [ho, hty, resolve, invoke, builtin, Sem.run_bind, Sem.run_pure, Result.andThen_ok, List.map_toArray, List.map_cons, List.map_nil, hs, hx, hr]
    exact hK _ _ h
/-- What lies ahead of B, and B, are as they were. -/
theorem Kp.upto {w W W' : World} {B : Nat} {x y z v1 v2 v4 : Value} {P : Pm} (h : Kp w W B x y z v1 v2 v4 P) (hB : Below (B + 1) W W') : Kp w W' B x y z v1 v2 v4 P :=
  have hlt := h.lt
  have hh : ∀ {e size m : Nat} {v : Value} {xs : List Value}, Has W (fun k => w.heap.size < k ∧ k < B) e size v m xs → Has W' (fun k => w.heap.size < k ∧ k < B) e size v m xs := fun hv => hv.kept (fun k hk => hB.block k (by have := (hv.lt k hk).1; omega)) (fun k hk => (hv.lt k hk).1)
  ⟨h.bel.trans (hB.mono (by omega)), (hB.block _ (by omega)).trans h.s0, h.lt, (hB.block _ (by omega)).trans h.r0, hh h.h1, hh h.h2, hh h.h4⟩
/-- Another run is put into the run's box. -/
theorem kq_over {w W W5 : World} {B : Nat} {x y z v1 v2 v4 u1 u2 u4 : Value} {Q P : Pm} (hK : Kp w W B x y z v1 v2 v4 Q) (hB : Below W.heap.size W W5)
    (hu1 : Has W5 (fun k => W.heap.size ≤ k) 52 9 u1 P.cls.length (clc P.cls)) (hu2 : Has W5 (fun k => W.heap.size ≤ k) 57 7 u2 P.lg.length (lgc P.lg)) (hu4 : Has W5 (fun k => W.heap.size ≤ k) 27 1 u4 P.ws.length (wrd P.ws)) :
    Below w.heap.size w ((((W5.setCell ⟨B, 0, none⟩ u1).setCell ⟨B, 1, none⟩ u2).setCell ⟨B, 2, none⟩ (.slice none 0 0)).setCell ⟨B, 3, none⟩ u4) ∧
    Kq ((((W5.setCell ⟨B, 0, none⟩ u1).setCell ⟨B, 1, none⟩ u2).setCell ⟨B, 2, none⟩ (.slice none 0 0)).setCell ⟨B, 3, none⟩ u4) B W5.heap.size u1 u2 u4 P := by
  have lt : B < W.heap.size := (Array.getElem?_eq_some_iff.1 hK.r0).1
  have lt0 := hK.lt
  have le := hB.size
  have hK5 := hK.below hB
  obtain ⟨W6, hW6⟩ : ∃ W6, (((W5.setCell ⟨B, 0, none⟩ u1).setCell ⟨B, 1, none⟩ u2).setCell ⟨B, 2, none⟩ (.slice none 0 0)).setCell ⟨B, 3, none⟩ u4 = W6 := ⟨_, rfl⟩
  have hoth : ∀ k, k ≠ B → W6.heap[k]? = W5.heap[k]? := fun k hk => by
    rw [← hW6, Below.heap_setCell _ _ _ k hk, Below.heap_setCell _ _ _ k hk, Below.heap_setCell _ _ _ k hk, Below.heap_setCell _ _ _ k hk]
  have kh : ∀ {e size m : Nat} {v : Value} {xs : List Value}, Has W5 (fun k => W.heap.size ≤ k) e size v m xs → Has W6 (fun k => k < W5.heap.size) e size v m xs := fun {e size m v xs} hh =>
    hh.kept (fun k hk => hoth k (by have := hh.lt k hk; omega)) (fun k hk => by have := hh.lt k hk; omega)
  rw [hW6]
  refine ⟨?_, ⟨by omega, ?_, kh hu1, kh hu2, kh hu4⟩⟩
  · rw [← hW6]
    exact (((hK5.bel.setCell (p := ⟨B, 0, none⟩) (Nat.le_of_lt lt0) _).setCell (p := ⟨B, 1, none⟩) (Nat.le_of_lt lt0) _).setCell (p := ⟨B, 2, none⟩) (Nat.le_of_lt lt0) _).setCell (p := ⟨B, 3, none⟩) (Nat.le_of_lt lt0) _
  · rw [← hW6, setBlk (setBlk (setBlk (setBlk hK5.r0 0 _) 1 _) 2 _) 3 _]
    rfl
end Go.Proofs.Ytiobchadjcekcaa.Ma
