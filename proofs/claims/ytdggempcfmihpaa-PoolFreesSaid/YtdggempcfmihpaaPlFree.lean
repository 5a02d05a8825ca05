/-
  along and the view's free, by their contracts.
-/
import Derived.Test.YtdggempcfmihpaaPlAlong
namespace Go.Proofs.Ytdggempcfmihpaa.Pl
open Go.RowKit Mr Me Wp Wc Wm
attribute [local go_sem] Oper.semAt_some
set_option linter.unusedVariables false
set_option linter.unusedSimpArgs false
theorem has_putObj {w : World} {S : Nat → Prop} {e : TypeId} {size : Nat} {v : Value} {n : Nat} {xs : List Value} (h : Has w S e size v n xs) {l : Nat} {o o' : Obj} (ho : w.heap[l]? = some o) (hoc : o.isCells = false) : Has (w.putObj l o') S e size v n xs := by
  refine h.kept (fun k hk => World.putObj_heap_other ?_) (fun k hk => (h.lt k hk).1)
  rintro rfl
  rcases h.2 with ⟨rfl, _⟩ | ⟨g, _, cur, rfl, _, hg, _⟩
  · simp [Value.ownBlock] at hk
  · simp [Value.ownBlock] at hk; subst hk; rw [hg] at ho; cases ho; cases hoc
section
variable {W W' : World} {bv g : Nat} {c : C7} {aw : Addr} {cap : Nat} {ws : List Int} {v : Vs}
theorem Wds.putObj (h : Wds W aw ws) {l : Nat} {o o' : Obj} (ho : W.heap[l]? = some o) (hoc : o.isCells = false) : Wds (W.putObj l o') aw ws :=
  ⟨fun j x hx => by
    have h1 := h.rd j x hx
    have hb : (W.putObj l o').heap[(aw.add j).block]? = W.heap[(aw.add j).block]? := World.putObj_heap_other (by
      intro e
      rw [← e] at ho
      unfold World.cell? at h1
      rw [ho] at h1
      cases o <;> simp_all [Obj.isCells])
    rw [← h1]; simp [World.cell?, hb], h.bd⟩
theorem Vw.putObj (h : Vw W bv g c aw cap ws v) {l : Nat} {o o' : Obj} (ho : W.heap[l]? = some o) (hoc : o.isCells = false) : Vw (W.putObj l o') bv g c aw cap ws v :=
  ⟨h.ne, (World.putObj_heap_other (by rintro rfl; rw [h.blk] at ho; cases ho; cases hoc)).trans h.blk, (World.putObj_heap_other (by rintro rfl; rw [h.row] at ho; cases ho; cases hoc)).trans h.row, h.wds.putObj ho hoc, h.far, h.ok, h.five, h.sz⟩
theorem Vw.awlt (h : Vw W bv g c aw cap ws v) : aw.block < W.heap.size := by
  have hl : 0 < ws.length := by
    have hok := ok_of (show cfgB c.a0 c.a1 c.a2 c.a3 c.a4 c.a5 c.a6 = true from h.ok)
    have m := bmono hok 13 14 (by omega) (by omega)
    have m2 := many_bd hok ((13 : Nat) : Int)
    have b := base_bd hok 13
    have := h.sz
    unfold C7.at at this
    omega
  have := World.block_lt_of_cell? W _ (h.wds.rd 0 _ (wat_some hl))
  rwa [blk_add] at this
end
section
variable {W W' : World} {bs bp br bm bv g : Nat} {s r : Int} {m : Bool} {c : C7} {aw : Addr} {cap : Nat} {ws : List Int} {v : Vs}
theorem new_at (W : World) (o : Obj) (k : Nat) (hk : k = W.heap.size) : (W.alloc o).heap[k]? = some o := by subst hk; exact heap_alloc_new W o
theorem old_at {W : World} {k : Nat} {o' : Obj} (h : W.heap[k]? = some o') (o : Obj) : (W.alloc o).heap[k]? = some o' := (Below.heap_alloc _ _ _ (Array.getElem?_eq_some_iff.1 h).1).trans h
set_option maxHeartbeats 2000000 in
theorem along_any (bv : Nat) (r s : Int) (m : Bool) (W : World) :
    Calls Try.prog 36 #[.pointer (some ⟨bv, 0, none⟩), .int .i64 r, .int .i64 s, .bool m] W fun e w' => e = .returned (.func (.func 62) #[] #[.pointer (some ⟨W.heap.size + 2, 0, none⟩), .pointer (some ⟨W.heap.size, 0, none⟩), .pointer (some ⟨W.heap.size + 1, 0, none⟩), .pointer (some ⟨W.heap.size + 3, 0, none⟩)]) ∧ Below W.heap.size W w' ∧ It w' (W.heap.size + 2) W.heap.size (W.heap.size + 1) (W.heap.size + 3) bv s r m ∧ w'.heap.size = W.heap.size + 4 := by
  have e0 : Below W.heap.size W ((((W.alloc (.cells #[.pointer (some ⟨bv, 0, none⟩)] 44)).alloc (.cells #[.int .i64 r] 74)).alloc (.cells #[.int .i64 s] 3)).alloc (.cells #[.bool m] 4)) :=
    ((((Below.refl _ _).alloc (Nat.le_refl _) _).alloc (by simp) _).alloc (by simp; omega) _).alloc (by simp; omega) _
  have e1 : It ((((W.alloc (.cells #[.pointer (some ⟨bv, 0, none⟩)] 44)).alloc (.cells #[.int .i64 r] 74)).alloc (.cells #[.int .i64 s] 3)).alloc (.cells #[.bool m] 4)) (W.heap.size + 2) W.heap.size (W.heap.size + 1) (W.heap.size + 3) bv s r m := by
    exact ⟨old_at (new_at _ _ _ (by simp)) _, old_at (old_at (old_at (new_at _ _ _ rfl) _) _) _, old_at (old_at (new_at _ _ _ (by simp)) _) _, new_at _ _ _ (by simp), by omega, by omega, by omega⟩
  replace e0 := Mr.hid e0
  replace e1 := Mr.hid e1
  go_enter Try.func36, Try.ntmps36
  go_wp2_with fail
  go_ret
  exact ⟨by simp, e0.out, e1.out, by simp⟩
theorem alg_len (wd : Nat → Int) (m : Bool) : ∀ (k : Nat) (v : Vs) (s : Int), (alg wd m k v s).1.length ≤ k := by
  intro k
  induction k with
  | zero => intro v s; simp [alg]
  | succ k ih => intro v s; rw [alg]; split <;> simp [ih]
theorem info_i : (Try.prog.info? 3).map (fun i => (i.zero, i.size, i.bytes)) = some (some (.int .i64 0), 1, 8) := by kernel_rfl
theorem info_parts {a : Option TypeInfo} {z : Option Value} {n b : Nat} (h : a.map (fun i => (i.zero, i.size, i.bytes)) = some (z, n, b)) : ∃ i, a = some i ∧ i.zero = z ∧ i.size = n ∧ i.bytes = b := by
  cases a with
  | none => simp at h
  | some i => simp at h; exact ⟨i, rfl, h.1, h.2.1, h.2.2⟩
theorem newsAt (w w' : World) (cs : Array Value) (t : TypeId) (B : Nat) (hB : B = w.heap.size) (hw : w'.heap = (w.alloc (.cells cs t)).heap) : ∀ j u, cs.toList[j]? = some u → w'.cell? ((⟨B, 0, none⟩ : Addr).add j) = some u := by
  intro j u hu
  subst hB
  have hadd : (⟨w.heap.size, 0, none⟩ : Addr).add j = ⟨w.heap.size, j, none⟩ := by unfold Addr.add; split <;> simp_all
  rw [hadd]
  have hb : w'.heap[w.heap.size]? = some (.cells cs t) := by rw [hw]; exact heap_alloc_new w _
  simp [World.cell?, hb]
  simpa using hu
/-- A row of ints behind a box. -/
def RowB (W : World) (bS B0 k : Nat) (xs : List Value) : Prop := ∃ va, W.heap[bS]? = some (.cells #[va] 26 (0, 0)) ∧ Has W (fun b => B0 ≤ b) 3 1 va k xs
/-- One more behind a row that lies behind a box. -/
theorem app_step {B0 bS k : Nat} {Wb w1 : World} {va u : Value} {xs : List Value} {o : Obj} {g cap : Nat} {tb : TypeId} (q1 : Wb.heap[bS]? = some (.cells #[va] tb (0, 0))) (q2 : Has Wb (fun b => B0 ≤ b) 3 1 va k xs) (hbS : bS < B0) (hB0 : B0 ≤ Wb.heap.size)
    (hown : Has w1 (fun b => B0 ≤ b) 3 1 (.slice (some ⟨g, 0, none⟩) (k + 1) cap) (k + 1) (xs ++ [u])) (hgrow : (Wb.alloc o).grownBy w1 va.ownBlock) :
    w1.cell? ⟨bS, 0, none⟩ = some va ∧ w1.frozen? ⟨bS, 0, none⟩ = false ∧ bS < w1.heap.size ∧ (w1.setCell ⟨bS, 0, none⟩ (.slice (some ⟨g, 0, none⟩) (k + 1) cap)).heap[bS]? = some (.cells #[.slice (some ⟨g, 0, none⟩) (k + 1) cap] tb (0, 0)) ∧ Has (w1.setCell ⟨bS, 0, none⟩ (.slice (some ⟨g, 0, none⟩) (k + 1) cap)) (fun b => B0 ≤ b) 3 1 (.slice (some ⟨g, 0, none⟩) (k + 1) cap) (k + 1) (xs ++ [u]) ∧ KeepsFrom B0 Wb (w1.setCell ⟨bS, 0, none⟩ (.slice (some ⟨g, 0, none⟩) (k + 1) cap)) ∧ Fr Wb (w1.setCell ⟨bS, 0, none⟩ (.slice (some ⟨g, 0, none⟩) (k + 1) cap)) (fun k => k = bS ∨ B0 ≤ k) := by
  have hrow : ∀ j, va.ownBlock = some j → B0 ≤ j := fun j hj => (q2.lt j hj).1
  have f1 : Fr Wb w1 (fun k => k = bS ∨ B0 ≤ k) := ((Fr.refl Wb _).alloc o).grown hgrow (fun j hj => .inl (.inr (hrow j hj)))
  have b1 : w1.heap[bS]? = some (.cells #[va] tb (0, 0)) := by
    have h0 : (Wb.alloc o).heap[bS]? = some (.cells #[va] tb (0, 0)) := (Below.heap_alloc _ _ _ (by omega)).trans q1
    rw [← h0]
    exact hgrow.block bS (Array.getElem?_eq_some_iff.1 h0).1 (fun e => by have := hrow _ e.symm; omega)
  have hgB : B0 ≤ g := (hown.lt g rfl).1
  refine ⟨by simp [World.cell?, b1], by simp [World.frozen?, b1], (Array.getElem?_eq_some_iff.1 b1).1, setBlk b1 0 _, hown.setCell _ _ (by simp [Value.ownBlock]; omega), ?_, f1.setCell _ _ (.inl (.inl rfl))⟩
  refine ((KeepsOthers.alloc Wb o).trans ((KeepsOthers.of_grownBy hgrow ?_).trans (KeepsOthers.setCell _ _ _))).from _
  intro j oo hj ho
  rcases q2.2 with ⟨rfl, _⟩ | ⟨g', _, cur, rfl, _, hg, _⟩
  · simp [Value.ownBlock] at hj
  · simp [Value.ownBlock] at hj
    subst hj
    have h0 := (Below.heap_alloc Wb o g' (Array.getElem?_eq_some_iff.1 hg).1).trans hg
    rw [h0] at ho
    cases ho
    rfl
def ints (l : List Int) : List Value := l.map (Value.int .i64)
/-- What free answers, and what it leaves. -/
def fre (c : C7) (ws : List Int) (v : Vs) : List Int × Vs :=
  if wat ws 0 % 4294967296 ≤ 2147483647 then ((alg (wdr c ws 10) false (v.cm.count false + 1) (v.ent (nxt (wat ws 0))).2 (v.ent (nxt (wat ws 0))).1).1.map Prod.fst, (alg (wdr c ws 10) false (v.cm.count false + 1) (v.ent (nxt (wat ws 0))).2 (v.ent (nxt (wat ws 0))).1).2) else ([], v.bad)
theorem at1 (c : C7) : c.at (1 : Int).toNat + 0 = 0 := rfl
set_option maxRecDepth 100000 in
set_option maxHeartbeats 4000000 in
theorem free_any (h : Vw W bv g c aw cap ws v) :
    Calls Try.prog 15 #[.pointer (some ⟨bv, 0, none⟩)] W fun e w' => ∃ va, e = .returned va ∧ Has w' (fun k => W.heap.size ≤ k) 3 1 va (fre c ws v).1.length (ints (fre c ws v).1) ∧ Vw w' bv g c aw cap ws (fre c ws v).2 ∧ Fr W w' (fun k => k = bv ∨ k = g) := by
  have WA := word_any h 1 0 ⟨h.ok, by omega, by omega, by omega, by omega, by simp [items]⟩
  rw [at1, show ((0 : Int)).toNat = 0 from rfl] at WA
  have hx := h.wds.in 0
  unfold fre
  by_cases hu : wat ws 0 % 4294967296 ≤ 2147483647
  · rw [if_pos hu]
    have U := fun W => unhead_ok (wat ws 0) W hx.1 hx.2 hu
    rw [show wat ws 0 % 4294967296 - 1 = nxt (wat ws 0) from rfl] at U
    have hq1 := nxt_ge (wat ws 0) hx.1
    have hq2 := nxt_le (wat ws 0)
    have EN := fun w' (hB : Below W.heap.size W w') => enter_any (h.below hB) (nxt (wat ws 0)) hq1 hq2
    have hes := ent_step v (nxt (wat ws 0)) hq1
    generalize wat ws 0 = x0 at *
    generalize hr : v.ent (nxt x0) = rr at *
    obtain ⟨s0, v0⟩ := rr
    simp only at *
    generalize nxt x0 = y0 at *
    generalize x0 / 4294967296 = tg at *
    have hB0 : Below W.heap.size W W := Below.refl _ _
    replace WA := Mr.hid WA
    replace EN := Mr.hid EN
    replace hes := Mr.hid hes
    replace U := Mr.hid U
    replace h := Mr.hid h
    clear hu hx hr hB0
    refine (callsIn_wide (n := 5)).1 ?_
    refine callsIn_of_wp_marks Try.func15 rfl trivial ?_ rfl
    simp only [Try.ntmps15, List.size_toArray, List.length_cons, List.length_nil, Nat.reduceAdd, Nat.reduceSub, Array.replicate_succ, Array.replicate_zero, List.push_toArray, List.append_toArray, List.nil_append, List.cons_append]
    refine wpIn_wide.2 ?_
    have bx0 : ∀ w1 : World, (w1.alloc (.cells #[.slice none 0 0] 26)).heap[w1.heap.size]? = some (.cells #[.slice none 0 0] 26 (0, 0)) := fun w1 => heap_alloc_new w1 _
    have hg0 := h.out.lt
    replace bx0 := Mr.hid bx0
    go_wp2_with (first | (go_at_call 35; refine WA.out.mono ?_; clear WA; rintro e w1 ⟨rfl, hB1⟩; replace hB1 := Mr.hid hB1) | (go_at_call 34; refine (U.out _).mono ?_; clear U; rintro e w1 ⟨rfl, rfl⟩) | (go_at_call 37; refine (EN.out _ (hB1.out.alloc hB1.out.size _)).mono ?_; clear EN; rintro e w2 ⟨rfl, hV2, hF2⟩; have hf2 := (Fr.of_below (hB1.out.alloc hB1.out.size (.cells #[.slice none 0 0] 26))).trans (hF2.mono (fun k e => .inl e)); have bx2 := (hF2.block w1.heap.size (by simp) (by have := hB1.out.size; intro e; rcases e with e | e <;> omega)).trans (bx0.out w1); have hz1 := hB1.out.size; clear hF2 hB1 bx0; replace hV2 := Mr.hid hV2; replace hf2 := Mr.hid hf2; generalize hbS : w1.heap.size = bS at *; clear hbS; replace bx2 := Mr.hid bx2) | (go_at_call 36; refine (along_any bv 10 s0 false w2).mono ?_; rintro e w3 ⟨rfl, hB3, hI3, hsz3⟩; have hV3 := hV2.out.below hB3; have hf3 := hf2.out.trans (Fr.of_below hB3); have bx3 := (hB3.block bS (Array.getElem?_eq_some_iff.1 bx2.out).1).trans bx2.out; have hl2 := hV2.out.lt; have hls := (Array.getElem?_eq_some_iff.1 bx2.out).1; have hzw := hf2.out.size; clear hV2 hf2 bx2 hB3; generalize w2.heap.size = B at *; replace hV3 := Mr.hid hV3; replace hf3 := Mr.hid hf3; replace bx3 := Mr.hid bx3; replace hI3 := Mr.hid hI3))
    refine (wpIn_wide (n := 5)).1 ?_
    obtain ⟨ys, hys⟩ : ∃ ys, ys = (alg (wdr c ws 10) false (v.cm.count false + 1) v0 s0).1 := ⟨_, rfl⟩
    obtain ⟨vf, hvf⟩ : ∃ vf, vf = (alg (wdr c ws 10) false (v.cm.count false + 1) v0 s0).2 := ⟨_, rfl⟩
    have hct : v0.cm.count false < v.cm.count false + 1 ∧ (s0 = -1 ∨ (0 ≤ s0 ∧ s0 < v0.cm.length)) := by
      rcases hes.out with ⟨h1, h2⟩ | ⟨h0, h1, h2, h3⟩
      · rcases h2 with ⟨rfl, _⟩ | rfl
        · exact ⟨by omega, .inl h1⟩
        · exact ⟨by show v.cm.count false < _; omega, .inl h1⟩
      · subst h3
        have := count_put _ _ h2
        have := (List.getElem?_eq_some_iff.1 h2).1
        exact ⟨by show (v.cm.set _ true).count false < _; omega, .inr ⟨by omega, by show s0 < ((v.cm.set _ true).length : Int); rw [List.length_set]; omega⟩⟩
    have hawb : aw.block < W.heap.size := h.out.awlt
    have hylen : ys.length ≤ 1025 := by
      have h1 := alg_len (wdr c ws 10) false (v.cm.count false + 1) v0 s0
      rw [← hys] at h1
      have h2 : v.cm.count false ≤ v.cm.length := List.count_le_length
      have h3 := h.out.five
      have h4 := ok_of (show cfgB c.a0 c.a1 c.a2 c.a3 c.a4 c.a5 c.a6 = true from h.out.ok)
      obtain ⟨-, -, -, -, -, h5, -, -⟩ := h4
      omega
    obtain ⟨i0, hi0, hz0, hz1, hz2⟩ := info_parts info_i
    refine range_w (α := Int × Bool) (gf := 62) (lb := #[.pointer (some ⟨B + 2, 0, none⟩), .pointer (some ⟨B, 0, none⟩), .pointer (some ⟨B + 1, 0, none⟩), .pointer (some ⟨B + 3, 0, none⟩)]) rfl (by omega) (enters_of Try.func62 (by kernel_rfl) rfl) (encs := fun x : Int × Bool => #[Value.int .i64 x.1, .bool x.2]) (ys := ys) (fun _ => rfl)
      (Sit := fun k => k = bv ∨ k = g ∨ k = B + 2) (Sc := fun k => k = bS) (K0 := fun W => It W (B + 2) B (B + 1) (B + 3) bv s0 10 false ∧ Vw W bv g c aw cap ws v0) (Kn := fun W => ∃ v', Vw W bv g c aw cap ws v') (Po := fun W => Vw W bv g c aw cap ws vf) ?sit ?hands ?k0 ?kn ?po
      (fun k W' => RowB W' bS w3.heap.size k (ints ((ys.map Prod.fst).take k)) ∧ Fr w3 W' (fun k => k = bv ∨ k = g ∨ k = B + 2 ∨ k = bS)) ?keeps ?stable ?start
      (fun x a' => a' = { tmps := #[Value.pointer (some ⟨bv, 0, none⟩), undef, Value.slice none 0 0, Value.int IntKind.u32 tg,
          Value.int IntKind.i64 y0, Value.int IntKind.i64 0, Value.pointer (some ⟨bS, 0, none⟩), Value.int .i64 x.1,
          Value.tuple #[Value.int IntKind.u32 tg, Value.int IntKind.i64 y0, Value.int IntKind.i64 0],
          Value.pointer (some ⟨bv, 0, none⟩), Value.int IntKind.u64 x0,
          Value.tuple #[Value.int IntKind.u32 tg, Value.int IntKind.i64 y0, Value.int IntKind.i64 0],
          Value.int IntKind.u32 tg, Value.int IntKind.i64 y0, Value.int IntKind.i64 0, Value.int IntKind.i64 0,
          Value.bool false, undef, undef, undef, Value.pointer (some ⟨bv, 0, none⟩),
          Value.pointer (some ⟨bv, 0, none⟩), Value.int IntKind.i64 y0, Value.int IntKind.i64 s0,
          Value.func (Fn.func 62) #[]
            #[Value.pointer (some ⟨B + 2, 0, none⟩), Value.pointer (some ⟨B, 0, none⟩),
              Value.pointer (some ⟨B + 1, 0, none⟩), Value.pointer (some ⟨B + 3, 0, none⟩)],
          Value.int .i64 x.1, Value.bool x.2, undef, undef, undef, undef, undef], defers := [] }) ?assign ?body ?done
    case sit => rintro k (rfl | rfl | rfl) <;> omega
    case hands =>
      subst hys hvf
      refine along_hands 4 (by omega) _ ⟨by omega, by omega, by omega, by omega, by omega, by omega, by omega, by omega, by omega⟩ (.inl rfl) ?_ ?_ ?_ ?_ ?_ ?_ ?_ _ hct.1 hct.2 <;> (intro e; rcases e with e | e <;> omega)
    case k0 =>
      intro o o'
      have hB : Below w3.heap.size w3 ((w3.alloc o).alloc o') := ((Below.refl _ _).alloc (Nat.le_refl _) _).alloc (by simp) _
      exact ⟨hI3.out.fr (S := fun _ => False) (Fr.of_below hB) (fun e => e) (fun e => e) (fun e => e) (fun e => e), hV3.out.below hB⟩
    case kn => rintro W' l o o' ⟨v', h⟩ hl ho hoc; exact ⟨v', h.putObj ho hoc⟩
    case po => rintro W' l o o' h hl ho hoc; exact h.putObj ho hoc
    case keeps =>
      rintro k W' l o o' ⟨⟨va, q1, q2⟩, q3⟩ hl ho hoc
      exact ⟨⟨va, (World.putObj_heap_other (by omega)).trans q1, has_putObj q2 ho hoc⟩, Fr.putObj q3 _ _ (.inr hl)⟩
    case stable =>
      rintro k W1 W2 ⟨⟨va, q1, q2⟩, q3⟩ hf
      exact ⟨⟨va, (hf.block _ (Array.getElem?_eq_some_iff.1 q1).1 (by omega)).trans q1, q2.fr hf (fun b hb _ => by omega)⟩, q3.trans (hf.mono (fun k e => .inl (by rcases e with e | e | e <;> simp [e])))⟩
    case start => exact ⟨⟨_, bx3.out, by simpa [ints] using Has.nil _ _ _ _⟩, Fr.refl _ _⟩
    case assign =>
      intro l x W' K hK
      gi_wp2
      first | exact hK _ rfl | rfl
    case body =>
      rintro l k x a' W' hx - ⟨⟨va, q1, q2⟩, q3⟩ rfl hsz
      obtain ⟨x1, x2⟩ := x
      have hkl : k < ys.length := (List.getElem?_eq_some_iff.1 hx).1
      have e0 : ints ((ys.map Prod.fst).take (k + 1)) = ints ((ys.map Prod.fst).take k) ++ [.int .i64 x1] := by
        rw [List.take_add_one, List.getElem?_map, hx]; simp [ints]
      rw [e0]
      generalize ints ((ys.map Prod.fst).take k) = xs at *
      clear e0 hx
      have cb : W'.cell? ⟨bS, 0, none⟩ = some va := by simp [World.cell?, q1]
      have hbS3 : bS < w3.heap.size := by omega
      have law : ∀ o, Has (W'.alloc o) (fun b => w3.heap.size ≤ b) 3 1 va k xs := fun o => q2.alloc o
      have fin := fun (o : Obj) (w5 : World) (g5 cap5 : Nat) (hown : Has w5 (fun b => w3.heap.size ≤ b) 3 1 (.slice (some ⟨g5, 0, none⟩) (k + 1) cap5) (k + 1) (xs ++ [.int .i64 x1])) (hgrow : (W'.alloc o).grownBy w5 va.ownBlock) => app_step q1 q2 hbS3 hsz hown hgrow
      have hS : ∀ o : Obj, w3.heap.size ≤ (W'.alloc o).heap.size := fun o => by simp; omega
      have q3' := Mr.hid q3
      obtain ⟨pv, qv, rfl, _⟩ := q2.form
      clear q1 q2 q3 hV3 hf3 bx3 hI3 hct
      replace hsz3 := Mr.hid hsz3
      replace law := Mr.hid law
      replace fin := Mr.hid fin
      replace hS := Mr.hid hS
      gi_wp2_with (first | (gi_at_builtin; refine wpListIn_append_has _ rfl (.tmp 27) (.tmp 29) 26 rfl (fun b => w3.heap.size ≤ b) 3 i0 _ 1 8 Try.underlying26 hi0 hz0 hz1 hz2 rfl (.slice pv k qv) k xs rfl (law.out _) ⟨W'.heap.size, 0, none⟩ 1 1 [.int .i64 x1] rfl rfl (newsAt W' _ #[.int .i64 x1] 3 _ rfl rfl) (by simp [Value.oneCell']) (by omega) (by unfold maxLen; omega) (by omega) (hS.out _) ?_; intro g5 cap5 w5 hown hgrow hat; obtain ⟨p1, p2, p3, p4, p5, p6, p7⟩ := fin.out _ w5 g5 cap5 hown hgrow; clear fin hown hgrow law hS hat cb; replace p4 := Mr.hid p4; replace p5 := Mr.hid p5; replace p6 := Mr.hid p6; replace p7 := Mr.hid p7))
      refine ⟨p6.out, ⟨⟨_, p4.out, p5.out⟩, q3'.out.trans (p7.out.mono (fun j e => ?_))⟩, p7.out⟩
      rcases e with e | e
      · exact .inl (.inr (.inr (.inr e)))
      · exact .inr e
    case done =>
      rintro D W' hD ⟨⟨va, q1, q2⟩, q3⟩ hpo hK
      have cb : W'.cell? ⟨bS, 0, none⟩ = some va := by simp [World.cell?, q1]
      have q2' := Mr.hid q2
      obtain ⟨pv, qv, rfl, _⟩ := q2.form
      clear q1 q2
      replace hpo := Mr.hid hpo
      replace q3 := Mr.hid q3
      replace hsz3 := Mr.hid hsz3
      gi_wp2
      go_wp2_with fail
      refine ⟨by simp, .inl ⟨_, _, rfl, run_takeDeferred (w := W') hK, ?_⟩⟩
      have hz := hf3.out.size
      have el : (ys.map Prod.fst).take ys.length = ys.map Prod.fst := List.take_of_length_le (by simp)
      refine ⟨.slice pv ys.length qv, by (simp [results, Try.f15, go_sem]; try rw [← hys]), .slice pv ys.length qv, rfl, ?_, ?_, ?_⟩
      · have q4 := q2'.out
        rw [el] at q4
        rw [← hys, List.length_map]
        exact (has_putObj (q4.mono (fun k hk => Nat.le_trans hz hk)) hK rfl)
      · rw [← hvf]; exact hpo.out.putObj hK rfl
      · refine Fr.putObj (hf3.out.trans (q3.out.mono (fun k e => ?_))) _ _ (.inr (by omega))
        rcases e with e | e | e | e
        · exact .inl (.inl e)
        · exact .inl (.inr e)
        · exact .inr (by omega)
        · exact .inr (by omega)
  · rw [if_neg hu]
    have U := fun W => unhead_bad (wat ws 0) W hx.1 hx.2 (by omega)
    generalize wat ws 0 = x0 at *
    have hod := fun w' (hB : Below W.heap.size W w') => (h.below hB).odd
    have hfz := fun w' (hB : Below W.heap.size W w') => (h.below hB).thaw.1
    have hcl := fun w' (hB : Below W.heap.size W w') => (h.below hB).cells.2.2.2.2.2.2.2.2.2
    have hbv := h.lt.1
    replace WA := Mr.hid WA
    replace U := Mr.hid U
    replace hod := Mr.hid hod
    replace hfz := Mr.hid hfz
    replace hcl := Mr.hid hcl
    clear h hx hu
    go_enter Try.func15, Try.ntmps15
    go_wp2_with (first | (go_at_call 35; refine WA.out.mono ?_; clear WA; rintro e w1 ⟨rfl, hB1⟩; have f9 := hfz.out w1 hB1; have c9 := hcl.out w1 hB1; have l1 := Nat.lt_of_lt_of_le hbv hB1.size; replace hB1 := Mr.hid hB1) | (go_at_call 34; refine (U.out _).mono ?_; clear U; rintro e w' ⟨rfl, rfl⟩))
    go_ret
    exact ⟨_, rfl, Has.nil _ _ _ _, hod.out _ hB1.out, (Fr.of_below hB1.out).setCell _ _ (.inl (.inl rfl))⟩
end
end Go.Proofs.Ytdggempcfmihpaa.Pl
