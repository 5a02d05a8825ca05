/-
  logged by its contract.
-/
import Derived.Test.YtkfcfhgjhnmjlaaMemIter
import Derived.BigQuiet
namespace Go.Proofs.Ytkfcfhgjhnmjlaa.Me
open Go.RowKit Go.Shelf Mr
attribute [local go_sem] Oper.semAt_some
theorem run_equalIn_func_nil (w : World) (d : Nat) (f : Fn) (c lb : Array Value) : (Op.equalIn (d + 1) 28 (.func f c lb) .nilFunc).run Try.prog w = .ok false w := by
  simp [Op.equalIn, run_underlying Try.underlying28]
theorem run_eql_func_nil (w : World) (f : Fn) (c lb : Array Value) : (binOp .eql 28 (.func f c lb) .nilFunc).run Try.prog w = .ok (.bool false) w := by
  simp only [binOp]
  simp [Op.equal, Op.maxDepth, run_equalIn_func_nil w 9999 f c lb]

/-- The cells of a row in a box behind a turn of a block that is no cells. -/
theorem has_own {β : Type} (S : Nat → Prop) (B t e size : Nat) (k : β → Nat) (f : β → List Value) : Own (fun (s : β) W => ∃ v, Boxed W B t v ∧ Has W S e size v (k s) (f s)) := by
  rintro s X Y row ⟨v, hv, hr⟩ hg hrow
  refine ⟨v, hv.kept hg (fun e' => ?_), hr.grown hg (fun j hj e' => ?_)⟩
  · obtain ⟨o, ho, hc⟩ := hrow B e'.symm
    rw [show X.heap[B]? = _ from hv] at ho; cases ho; cases hc
  · rcases hr.2 with ⟨rfl, _⟩ | ⟨g, cap, cur, rfl, _, hgb, _⟩
    · simp [Value.ownBlock] at hj
    · obtain ⟨o, ho, hc⟩ := hrow j e'
      simp [Value.ownBlock] at hj
      subst hj
      rw [hgb] at ho; cases ho; cases hc

/-- 'x = append(x, ..)', x in a box: behind the append, and behind the store. -/
theorem boxHas {W w0 w1 : World} {S : Nat → Prop} {n₀ B t e size : Nat} {v v' : Value} {k m : Nat} {xs ys : List Value} (hv : Boxed W B t v) (hte : t ≠ e) (hrow : Has W S e size v k xs) (hS : ∀ k, S k → n₀ ≤ k) (hn₀ : n₀ ≤ W.heap.size) (hB : n₀ ≤ B)
    (hb0 : Below W.heap.size W w0) (hk0 : KeepsOthers W w0) (hown' : Has w1 S e size v' m ys) (hgrow : w0.grownBy w1 v.ownBlock) :
    Boxed w1 B t v ∧ Boxed (w1.setCell ⟨B, 0, none⟩ v') B t v' ∧ Has (w1.setCell ⟨B, 0, none⟩ v') S e size v' m ys ∧ KeepsOthers W (w1.setCell ⟨B, 0, none⟩ v') ∧ Below n₀ W (w1.setCell ⟨B, 0, none⟩ v') ∧
    (∀ j, j < W.heap.size → j ≠ B → v.ownBlock ≠ some j → (w1.setCell ⟨B, 0, none⟩ v').heap[j]? = W.heap[j]?) := by
  have nr : ∀ {X : World} {u : Value} {j : Nat} {zs : List Value} {a : Value}, Boxed X B t u → Has X S e size a j zs → a.ownBlock ≠ some B := fun {X u j zs a} hX hr e' => by
    rcases hr.2 with ⟨rfl, _⟩ | ⟨g, cap, cur, rfl, _, hgb, _⟩
    · simp [Value.ownBlock] at e'
    · simp [Value.ownBlock] at e'
      subst e'
      have := (show X.heap[_]? = _ from hX).symm.trans hgb
      simp at this
      exact hte this.2
  have hv0 : Boxed w0 B t v := (hb0.block B hv.lt).trans hv
  have hv1 : Boxed w1 B t v := hv0.kept hgrow (fun e => nr hv hrow e.symm)
  refine ⟨hv1, hv1.set v', hown'.setCell _ _ (nr hv1 hown'), (hk0.trans (KeepsOthers.of_grownBy hgrow fun j o ej hj => ?_)).trans (KeepsOthers.setCell _ _ _), ?_, fun j hj h1 h2 => ?_⟩
  · rcases (hrow.below hb0).2 with ⟨rfl, _⟩ | ⟨g, cap, cur, rfl, _, hgb, _⟩
    · simp [Value.ownBlock] at ej
    · obtain rfl : g = j := by simpa [Value.ownBlock] using ej
      rw [hgb] at hj; cases hj; rfl
  · refine ((hb0.mono hn₀).grown hgrow (Nat.le_trans hn₀ hb0.size) fun j ej => ?_).setCell (p := ⟨B, 0, none⟩) hB v'
    exact hS j (hrow.lt j ej).1
  · rw [Below.heap_setCell _ _ _ j h1, hgrow.block j (Nat.lt_of_lt_of_le hj hb0.size) (fun e => h2 e.symm)]
    exact hb0.block j hj

def nmc (l : List (Nat × Acc)) : List Value := l.map (fun x => .int .i64 (x.1 : Int))
theorem nmc_snoc (l : List (Nat × Acc)) (x : Nat × Acc) : nmc (l ++ [x]) = nmc l ++ [.int .i64 (x.1 : Int)] := by simp [nmc]

theorem room_mono {a b c : Nat} (hab : a ≤ b) (h : (b + b / 4 + 192) * 56 ≤ 281474976710656) (hc : c ≤ 56) : (a + a / 4 + 192) * c ≤ 281474976710656 :=
  Nat.le_trans (Nat.mul_le_mul (Nat.add_le_add_right (Nat.add_le_add hab (Nat.div_le_div_right hab)) _) hc) h
theorem room_max {a : Nat} (h : (a + a / 4 + 192) * 56 ≤ 281474976710656) : a ≤ maxLen := by unfold maxLen; omega
/-- What the loop's two lists hold. -/
def LogI (w : World) (most : Int) (pre : List (Nat × Acc)) (W : World) : Prop :=
  (((∃ vn, Boxed W (w.heap.size + 1 + 1 + 1) 34 vn ∧ Has W (fun k => w.heap.size + 1 + 1 + 1 + 1 < k) 3 1 vn pre.length (nmc pre)) ∧
   (∃ vq, Boxed W (w.heap.size + 1 + 1 + 1 + 1) 35 vq ∧ Has W (fun k => w.heap.size + 1 + 1 + 1 + 1 < k) 41 7 vq pre.length (lgc (pre.map (·.2))))) ∧ Boxed W w.heap.size 3 (.int .i64 most) ∧ pre.length ≤ most.toNat) ∧ Below w.heap.size w W
theorem LogI.own (w : World) (most : Int) (B : Nat) (hB : w.heap.size ≤ B) : OwnFrom B (LogI w most) := by
  refine OwnFrom.and (Own.from ?_ _) (ownFrom_below (Nat.le_refl _) hB)
  rintro s X Y row ⟨⟨h1, h2⟩, h3, h4⟩ hg hr
  exact ⟨⟨has_own _ _ _ _ _ (fun s : List (Nat × Acc) => s.length) nmc s X Y row h1 hg hr, has_own _ _ _ _ _ (fun s : List (Nat × Acc) => s.length) (fun s => lgc (s.map (·.2))) s X Y row h2 hg hr⟩, boxed_own (β := Unit) _ _ (fun _ => _) () X Y row h3 hg hr, h4⟩

theorem has_put {W : World} {S T : Nat → Prop} {e size n : Nat} {v : Value} {xs : List Value} (h : Has W S e size v n xs) {D : Nat} {o o' : Obj} (hD : W.heap[D]? = some o) (ho : o.isCells = false) (hT : ∀ k, S k → T k) : Has (W.drew.putObj D o') T e size v n xs := by
  refine (Has.grown (w := W.drew) (Has.kept h (fun _ _ => rfl) (fun k hk => (h.lt k hk).1)) (grownBy_putObj' W.drew D o') (fun k hk e' => ?_)).mono hT
  rcases h.2 with ⟨rfl, _⟩ | ⟨g', _, cur', rfl, _, hg', _⟩
  · simp [Value.ownBlock] at hk
  · simp [Value.ownBlock] at hk e'
    subst hk; subst e'
    rw [hg'] at hD; cases hD; cases ho
/-- A block of another type than the row's is not the row's. -/
theorem has_far {W : World} {S : Nat → Prop} {e size n : Nat} {v : Value} {xs : List Value} (h : Has W S e size v n xs) {j t : Nat} {cur : Array Value} {f : Nat × Nat} (hj : W.heap[j]? = some (.cells cur t f)) (ht : t ≠ e) : v.ownBlock ≠ some j := fun e' => by
  rcases h.2 with ⟨hv, _⟩ | ⟨g', _, cur', hv, _, hg', _⟩
  · subst hv; simp [Value.ownBlock] at e'
  · subst hv
    simp [Value.ownBlock] at e'
    subst e'
    rw [hg'] at hj; cases hj; exact ht rfl
/-- What lies in the world behind the first append, and behind its store. -/
theorem logStep1 {Wb w1 w0 : World} {B Bx : Nat} {vn vq vn' : Value} {most : Int} {p : Nat} {ns ns' qs xs : List Value} (hbn : Boxed Wb (B + 1 + 1 + 1) 34 vn) (hn : Has Wb (fun k => B + 1 + 1 + 1 + 1 < k) 3 1 vn p ns)
    (hbq : Boxed Wb (B + 1 + 1 + 1 + 1) 35 vq) (hq : Has Wb (fun k => B + 1 + 1 + 1 + 1 < k) 41 7 vq p qs) (hbm : Boxed Wb B 3 (.int .i64 most)) (bX : Wb.heap[Bx]? = some (.cells xs.toArray 41 (0, 0)))
    (hb0 : Below Wb.heap.size Wb w0) (hk0 : KeepsOthers Wb w0) (hown : Has w1 (fun k => B + 1 + 1 + 1 + 1 < k) 3 1 vn' (p + 1) ns') (hgrow : w0.grownBy w1 vn.ownBlock) :
    (Boxed w1 (B + 1 + 1 + 1) 34 vn ∧ Boxed w1 (B + 1 + 1 + 1 + 1) 35 vq ∧ w1.heap[Bx]? = some (.cells xs.toArray 41 (0, 0))) ∧
    ∃ W2, W2 = w1.setCell ⟨B + 1 + 1 + 1, 0, none⟩ vn' ∧ Boxed W2 (B + 1 + 1 + 1) 34 vn' ∧ Has W2 (fun k => B + 1 + 1 + 1 + 1 < k) 3 1 vn' (p + 1) ns' ∧ Boxed W2 (B + 1 + 1 + 1 + 1) 35 vq ∧ Has W2 (fun k => B + 1 + 1 + 1 + 1 < k) 41 7 vq p qs ∧
      Boxed W2 B 3 (.int .i64 most) ∧ KeepsOthers Wb W2 ∧ Below B Wb W2 := by
  have hl4 := hbq.lt
  obtain ⟨q1, q2, q3, q4, q5, q6⟩ := boxHas (n₀ := B) hbn (by decide) hn (fun k hk => by omega) (by omega) (by omega) hb0 hk0 hown hgrow
  have hk1 : ∀ j, j < Wb.heap.size → vn.ownBlock ≠ some j → w1.heap[j]? = Wb.heap[j]? := fun j hj hne =>
    (hgrow.block j (Nat.lt_of_lt_of_le hj hb0.size) (fun e => hne e.symm)).trans (hb0.block j hj)
  have n4 : vn.ownBlock ≠ some (B + 1 + 1 + 1 + 1) := fun e => by have := (hn.lt _ e).1; omega
  have n0 : vn.ownBlock ≠ some B := fun e => by have := (hn.lt _ e).1; omega
  have nX : vn.ownBlock ≠ some Bx := has_far hn bX (by decide)
  refine ⟨⟨q1, (hk1 _ hbq.lt n4).trans hbq, (hk1 _ (Array.getElem?_eq_some_iff.1 bX).1 nX).trans bX⟩, _, rfl, q2, q3, (q6 _ hbq.lt (by omega) n4).trans hbq, ?_, (q6 _ hbm.lt (by omega) n0).trans hbm, q4, q5⟩
  exact hq.kept (fun k hk => q6 k (hq.lt k hk).2 (by have := (hq.lt k hk).1; omega) (fun e => has_ne hq hn (by decide) k hk e)) (fun k hk => (hq.lt k hk).1)
/-- .. behind the second one and its store. -/
theorem logStep2 {Wb w1 w0 : World} {B : Nat} {vn vq vq' : Value} {most : Int} {p : Nat} {ns qs qs' : List Value} (hbn : Boxed Wb (B + 1 + 1 + 1) 34 vn) (hn : Has Wb (fun k => B + 1 + 1 + 1 + 1 < k) 3 1 vn (p + 1) ns)
    (hbq : Boxed Wb (B + 1 + 1 + 1 + 1) 35 vq) (hq : Has Wb (fun k => B + 1 + 1 + 1 + 1 < k) 41 7 vq p qs) (hbm : Boxed Wb B 3 (.int .i64 most))
    (hb0 : Below Wb.heap.size Wb w0) (hk0 : KeepsOthers Wb w0) (hown : Has w1 (fun k => B + 1 + 1 + 1 + 1 < k) 41 7 vq' (p + 1) qs') (hgrow : w0.grownBy w1 vq.ownBlock) :
    Boxed w1 (B + 1 + 1 + 1 + 1) 35 vq ∧
    ∃ W2, W2 = w1.setCell ⟨B + 1 + 1 + 1 + 1, 0, none⟩ vq' ∧ Boxed W2 (B + 1 + 1 + 1) 34 vn ∧ Has W2 (fun k => B + 1 + 1 + 1 + 1 < k) 3 1 vn (p + 1) ns ∧ Boxed W2 (B + 1 + 1 + 1 + 1) 35 vq' ∧ Has W2 (fun k => B + 1 + 1 + 1 + 1 < k) 41 7 vq' (p + 1) qs' ∧
      Boxed W2 B 3 (.int .i64 most) ∧ KeepsOthers Wb W2 ∧ Below B Wb W2 := by
  have hl4 := hbq.lt
  obtain ⟨q1, q2, q3, q4, q5, q6⟩ := boxHas (n₀ := B) hbq (by decide) hq (fun k hk => by omega) (by omega) (by omega) hb0 hk0 hown hgrow
  have n3 : vq.ownBlock ≠ some (B + 1 + 1 + 1) := fun e => by have := (hq.lt _ e).1; omega
  have n0 : vq.ownBlock ≠ some B := fun e => by have := (hq.lt _ e).1; omega
  refine ⟨q1, _, rfl, (q6 _ hbn.lt (by omega) n3).trans hbn, ?_, q2, q3, (q6 _ hbm.lt (by omega) n0).trans hbm, q4, q5⟩
  exact hn.kept (fun k hk => q6 k (hn.lt k hk).2 (by have := (hn.lt k hk).1; omega) (fun e => has_ne hn hq (by decide) k hk e)) (fun k hk => (hn.lt k hk).1)
set_option maxRecDepth 100000 in
set_option maxHeartbeats 1000000 in
theorem logged_any {W : World} {S : Nat → Prop} {b : Nat} {vw vl va : Value} {ws : List Int} {mv : Int} {lg : List Acc} {ah : List Int} (h : Mem W S b vw vl va ws mv lg ah) (hb : (lg.length + lg.length / 4 + 192) * 56 ≤ 281474976710656) (fr most : Int) :
    Calls Try.prog 8 #[.pointer (some ⟨b, 0, none⟩), .int .i64 fr, .int .i64 most] W fun e w' => ∃ vn vq k, k = min (lg.length - fr.toNat) most.toNat ∧ e = .returned (.tuple #[vn, vq, .bool true]) ∧
      Has w' (fun k => W.heap.size ≤ k) 3 1 vn k (nmc (ent lg fr.toNat k)) ∧ Has w' (fun k => W.heap.size ≤ k) 41 7 vq k (lgc ((ent lg fr.toNat k).map (·.2))) ∧ Below W.heap.size W w' := by
  have hsm : lg.length ≤ 5026338869641 := by omega
  replace hb := Mr.hid hb
  have enf := run_eql_func_nil
  refine (callsIn_wide (n := 5)).1 ?_
  refine callsIn_of_wp_marks Try.func8 rfl trivial ?_ rfl
  simp only [Try.ntmps8, List.size_toArray, List.length_cons, List.length_nil, Nat.reduceAdd, Nat.reduceSub, Array.replicate_succ, Array.replicate_zero, List.push_toArray, List.append_toArray, List.nil_append, List.cons_append]
  gi_wp2_with (refine ⟨trivial, ?_⟩; gi_at_call 6; refine (callsIn_wide.2 (log_any _ _ _)).mono ?_; rintro e w' ⟨rfl, rfl⟩)
  obtain ⟨W5, hW5⟩ : ∃ W5, (((((W.alloc (.cells #[.int .i64 most] 3)).alloc (.cells #[.pointer (some ⟨b, 0, none⟩)] 25)).alloc (.cells #[.int .i64 fr] 3)).alloc (.cells #[.slice none 0 0] 34)).alloc (.cells #[.slice none 0 0] 35)) = W5 := ⟨_, rfl⟩
  rw [hW5]
  have b0 : Boxed W5 W.heap.size 3 (.int .i64 most) := by rw [← hW5]; exact ((((Boxed.new W 3 _).alloc _).alloc _).alloc _).alloc _
  have b1 : Boxed W5 (W.heap.size + 1) 25 (.pointer (some ⟨b, 0, none⟩)) := by
    rw [← hW5]
    have := Boxed.new (W.alloc (.cells #[.int .i64 most] 3)) 25 (.pointer (some ⟨b, 0, none⟩))
    rw [World.size_alloc] at this
    exact ((this.alloc _).alloc _).alloc _
  have b2 : Boxed W5 (W.heap.size + 1 + 1) 3 (.int .i64 fr) := by
    rw [← hW5]
    have := Boxed.new ((W.alloc (.cells #[.int .i64 most] 3)).alloc (.cells #[.pointer (some ⟨b, 0, none⟩)] 25)) 3 (.int .i64 fr)
    rw [World.size_alloc, World.size_alloc] at this
    exact (this.alloc _).alloc _
  have b3 : Boxed W5 (W.heap.size + 1 + 1 + 1) 34 (.slice none 0 0) := by
    rw [← hW5]
    have := Boxed.new (((W.alloc (.cells #[.int .i64 most] 3)).alloc (.cells #[.pointer (some ⟨b, 0, none⟩)] 25)).alloc (.cells #[.int .i64 fr] 3)) 34 (.slice none 0 0)
    rw [World.size_alloc, World.size_alloc, World.size_alloc] at this
    exact this.alloc _
  have b4 : Boxed W5 (W.heap.size + 1 + 1 + 1 + 1) 35 (.slice none 0 0) := by
    rw [← hW5]
    have := Boxed.new ((((W.alloc (.cells #[.int .i64 most] 3)).alloc (.cells #[.pointer (some ⟨b, 0, none⟩)] 25)).alloc (.cells #[.int .i64 fr] 3)).alloc (.cells #[.slice none 0 0] 34)) 35 (.slice none 0 0)
    rw [World.size_alloc, World.size_alloc, World.size_alloc, World.size_alloc] at this
    exact this
  have hB5 : Below W.heap.size W W5 := by
    rw [← hW5]
    exact (((((Below.refl _ W).alloc (Nat.le_refl _) _).alloc (by simp) _).alloc (by simp; omega) _).alloc (by simp; omega) _).alloc (by simp; omega) _
  have hs5 : W5.heap.size = W.heap.size + 1 + 1 + 1 + 1 + 1 := by rw [← hW5]; simp
  clear hW5
  have hlt5 : ∀ g, vl.ownBlock = some g → g < W.heap.size := fun g hg => (h.hl.lt g hg).2
  have hit : It W5 (W.heap.size + 1) (W.heap.size + 1 + 1) b fr vl lg := ⟨b1.cell, b2.cell, (hB5.cell (p := ⟨b, 2, none⟩) h.lt).trans h.c2, (h.hl.below hB5).mono (fun _ _ => trivial), by omega⟩
  obtain ⟨i0, hi, hz0, hz1, hz2⟩ := info_parts info_int
  obtain ⟨j0, hj, hy0, hy1, hy2⟩ := info_parts info_acc
  refine wpIn_rangeFunc_ownH rfl (by omega) (gf := 18) (lb := #[.pointer (some ⟨W.heap.size + 1, 0, none⟩), .pointer (some ⟨W.heap.size + 1 + 1, 0, none⟩)]) rfl trivial (enters_of Try.func18 (by kernel_rfl) rfl)
    (log_stops 4 _ _ b fr vl lg (by omega) W5 hit) Kl.trans (Kl.put (fun g hg => by have := hlt5 g hg; omega)) (Below.refl _ _) (fun _ => rfl) (LogI W most)
    (fun c pre W' => c = .exit 0 ∧ ∃ ini last, pre = ini ++ [last] ∧ LogI W most ini W' ∧ most.toNat ≤ ini.length)
    (LogI.own W most _ (by omega)) (fun c => by rintro s X Y row ⟨hc, ini, last, e1, hI, e3⟩ hg hr; exact ⟨hc, ini, last, e1, LogI.own W most _ (by omega) ini X Y row hI hg hr, e3⟩)
    ⟨⟨⟨⟨_, b3, Has.nil _ _ _ _⟩, ⟨_, b4, Has.nil _ _ _ _⟩⟩, b0, by simp⟩, hB5⟩
    (fun x a' W' => ∃ Bx, W.heap.size + 1 + 1 + 1 + 1 < Bx ∧ W'.heap[Bx]? = some (.cells #[.int .i64 x.2.mv, .int .i64 x.2.th, .int .i64 x.2.kd, .int .i64 x.2.ad, .int .u64 x.2.old, .int .u64 x.2.new, .int .u64 x.2.saw] 41 (0, 0)) ∧ a' = { tmps := #[Value.pointer (some { block := b, off := 0 }), Value.int IntKind.i64 fr, Value.int IntKind.i64 most, undef, undef, Value.pointer (some { block := W.heap.size, off := 0 }), Value.slice none 0 0, Value.slice none 0 0, Value.bool false, Value.func (Fn.func 18) #[] #[Value.pointer (some { block := W.heap.size + 1, off := 0 }), Value.pointer (some { block := W.heap.size + 1 + 1, off := 0 })], Value.pointer (some { block := W.heap.size + 1 + 1 + 1, off := 0 }), Value.pointer (some { block := W.heap.size + 1 + 1 + 1 + 1, off := 0 }), Value.int .i64 (x.1 : Int), Value.pointer (some { block := Bx, off := 0 }), Value.pointer (some { block := b, off := 0 }), Value.int IntKind.i64 fr, Value.func (Fn.func 18) #[] #[Value.pointer (some { block := W.heap.size + 1, off := 0 }), Value.pointer (some { block := W.heap.size + 1 + 1, off := 0 })], Value.func (Fn.func 18) #[] #[Value.pointer (some { block := W.heap.size + 1, off := 0 }), Value.pointer (some { block := W.heap.size + 1 + 1, off := 0 })], Value.bool false, Value.func (Fn.func 18) #[] #[Value.pointer (some { block := W.heap.size + 1, off := 0 }), Value.pointer (some { block := W.heap.size + 1 + 1, off := 0 })], Value.int .i64 (x.1 : Int), Acc.val x.2, undef, undef, undef, undef, undef, undef, undef, undef, undef, undef, undef, undef, undef, undef], defers := [] })
    (fun x a' => by
      rintro _ X Y row ⟨Bx, h1, h2, h3⟩ hg hr
      refine ⟨Bx, h1, (hg.block Bx (Array.getElem?_eq_some_iff.1 h2).1 (fun e => ?_)).trans h2, h3⟩
      obtain ⟨_, o, ho, hc⟩ := hr Bx e.symm
      rw [h2] at ho; cases ho; cases hc)
    ?assign ?body ?done ?stop
  case assign =>
    rintro l pre x Wb K hI hK
    have hlt4 := (hI.1.1.2.choose_spec.1).lt
    have hsz := hI.2.size
    obtain ⟨x1, x2⟩ := x
    simp only [Acc.val]
    gi_wp2
    exact hK _ _ ((KeepsOthers.alloc _ _).from _) (Kl.below (n₀ := W.heap.size) ((Below.refl _ Wb).alloc hsz _) hlt5) ((LogI.own W most _ (Nat.le_refl _)).alloc _ hI) ⟨Wb.heap.size, hlt4, heap_alloc_new _ _, rfl⟩
  case body =>
    rintro l pre x a' Wb hl ⟨r, hr⟩ hI ⟨Bx, hBx, bX, rfl⟩ hlen
    have hI0 := Mr.hid hI
    obtain ⟨⟨⟨⟨vn, hbn, hn⟩, ⟨vq, hbq, hq⟩⟩, hbm, hpl⟩, hBW⟩ := hI
    obtain ⟨x1, x2⟩ := x
    obtain ⟨y0, y1, y2, y3, y4, y5, y6⟩ := x2
    obtain ⟨an, cn, rfl, _⟩ := hn.form
    obtain ⟨aq, cq, rfl, _⟩ := hq.form
    have hlt4 := hbq.lt
    have hltX : Bx < Wb.heap.size := (Array.getElem?_eq_some_iff.1 bX).1
    have cn1 := hbn.cell
    have cq1 := hbq.cell
    have cm1 := hbm.cell
    have fn1 := hbn.frozen
    simp only [Acc.val] at bX ⊢
    by_cases hm : most ≤ (pre.length : Int)
    · gi_wp2
      exact ⟨KeepsFrom.refl _ _, rfl, pre, _, rfl, hI0.out, by omega⟩
    · have hm' : decide (most ≤ (pre.length : Int)) = false := by simpa using hm
      have hpm : pre.length + 1 ≤ most.toNat := by omega
      have hle1 : pre.length + 1 ≤ lg.length := by omega
      have hpb : (pre.length + 1 + (pre.length + 1) / 4 + 192) * 56 ≤ 281474976710656 := room_mono hle1 hb.out (Nat.le_refl _)
      have hpb8 : (pre.length + 1 + (pre.length + 1) / 4 + 192) * 8 ≤ 281474976710656 := room_mono hle1 hb.out (by decide)
      have hpx : pre.length + 1 ≤ maxLen := room_max hpb
      replace hpb := Mr.hid hpb
      replace hpb8 := Mr.hid hpb8
      have law1 : ∀ o, Has (Wb.alloc o) (fun k => W.heap.size + 1 + 1 + 1 + 1 < k) 3 1 (.slice an pre.length cn) pre.length (nmc pre) := fun o => hn.alloc o
      have hs1 : ∀ o, W.heap.size + 1 + 1 + 1 + 1 < (Wb.alloc o).heap.size := fun o => by simp; omega
      have hsz2 : ∀ {X : World} {v : Value}, Boxed X (W.heap.size + 1 + 1 + 1 + 1) 35 v → ∀ o, W.heap.size + 1 + 1 + 1 + 1 < (X.alloc o).heap.size := fun hx o => by have := hx.lt; simp; omega
      have neX : W.heap.size + 1 + 1 + 1 ≠ Bx := by omega
      have neq : W.heap.size + 1 + 1 + 1 ≠ W.heap.size + 1 + 1 + 1 + 1 := by omega
      have neX4 : W.heap.size + 1 + 1 + 1 + 1 ≠ Bx := by omega
      have step1 : ∀ {o : Obj} {w1 : World} {g cap : Nat}, Has w1 (fun k => W.heap.size + 1 + 1 + 1 + 1 < k) 3 1 (.slice (some ⟨g, 0, none⟩) (pre.length + 1) cap) (pre.length + 1) (nmc pre ++ [.int .i64 (x1 : Int)]) → (Wb.alloc o).grownBy w1 (Value.slice an pre.length cn).ownBlock → _ := fun {o w1 g cap} hown hgrow =>
        logStep1 (xs := [.int .i64 y0, .int .i64 y1, .int .i64 y2, .int .i64 y3, .int .u64 y4, .int .u64 y5, .int .u64 y6]) hbn hn hbq hq hbm bX ((Below.refl _ _).alloc (Nat.le_refl _) o) (KeepsOthers.alloc _ _) hown hgrow
      clear hm hn hq hbn hbq hbm bX hI0
      replace hpm := Mr.hid hpm
      gi_wp2_with (first | (gi_at_builtin; refine wpListIn_append_has _ rfl (.tmp 26) (.tmp 28) 34 rfl (fun k => W.heap.size + 1 + 1 + 1 + 1 < k) 3 i0 _ 1 8 Try.underlying34 hi hz0 hz1 hz2 rfl (.slice an pre.length cn) pre.length (nmc pre) rfl (law1 _) ⟨Wb.heap.size, 0, none⟩ 1 1 [.int .i64 (x1 : Int)] rfl rfl (newsAt Wb _ #[.int .i64 (x1 : Int)] 3 _ rfl rfl) (by simp [Value.oneCell']) (by omega) hpx hpb8.out (hs1 _) ?_; intro g cap w1 hown hgrow hat; obtain ⟨⟨q1, q2, q3⟩, W2, hW2, z1, z2, z3, z4, z5, z7, z8⟩ := step1 hown hgrow; have q1c := q1.cell; have q1f := q1.frozen; have q2c := q2.cell; have q2f := q2.frozen; have r0 : w1.cell? ⟨Bx, 0, none⟩ = some (.int .i64 y0) := (by simp [World.cell?, q3]); have r1 : w1.cell? ⟨Bx, 1, none⟩ = some (.int .i64 y1) := (by simp [World.cell?, q3]); have r2 : w1.cell? ⟨Bx, 2, none⟩ = some (.int .i64 y2) := (by simp [World.cell?, q3]); have r3 : w1.cell? ⟨Bx, 3, none⟩ = some (.int .i64 y3) := (by simp [World.cell?, q3]); have r4 : w1.cell? ⟨Bx, 4, none⟩ = some (.int .u64 y4) := (by simp [World.cell?, q3]); have r5 : w1.cell? ⟨Bx, 5, none⟩ = some (.int .u64 y5) := (by simp [World.cell?, q3]); have r6 : w1.cell? ⟨Bx, 6, none⟩ = some (.int .u64 y6) := (by simp [World.cell?, q3]); clear step1 law1 hown hgrow hat q1 q2 q3 cn1 cq1 cm1 fn1; subst hW2; have law2 := fun o => z4.alloc o; have hs2 := hsz2 z3; have step2 := fun {w0 w3 : World} {v : Value} a b c d => logStep2 (w0 := w0) (w1 := w3) (vq' := v) (qs' := lgc (pre.map (·.2)) ++ [.int .i64 y0, .int .i64 y1, .int .i64 y2, .int .i64 y3, .int .u64 y4, .int .u64 y5, .int .u64 y6]) z1 z2 z3 z4 z5 a b c d; replace z7 := Mr.hid z7; replace z8 := Mr.hid z8; clear z1 z2 z3 z4 z5) | (gi_at_builtin; go_loud (refine wpListIn_append_has _ rfl (.tmp 30) (.tmp 32) 35 rfl (fun k => W.heap.size + 1 + 1 + 1 + 1 < k) 41 j0 _ 7 56 Try.underlying35 hj hy0 hy1 hy2 rfl (.slice aq pre.length cq) pre.length (lgc (pre.map (·.2))) rfl (law2 _) ⟨_, 0, none⟩ 1 1 [.int .i64 y0, .int .i64 y1, .int .i64 y2, .int .i64 y3, .int .u64 y4, .int .u64 y5, .int .u64 y6] rfl rfl (newsAt (w1.setCell ⟨W.heap.size + 1 + 1 + 1, 0, none⟩ (.slice (some ⟨g, 0, none⟩) (pre.length + 1) cap)) _ #[.int .i64 y0, .int .i64 y1, .int .i64 y2, .int .i64 y3, .int .u64 y4, .int .u64 y5, .int .u64 y6] 41 _ (by simp) rfl) (by simp [Value.oneCell']) (by omega) hpx hpb.out (hs2 _) ?_; intro g4 cap4 w4 hown hgrow hat; obtain ⟨q4, W4, hW4, t1, t2, t3, t4, t5, t7, t8⟩ := step2 ((Below.refl _ _).alloc (Nat.le_refl _) _) (KeepsOthers.alloc _ _) hown hgrow; have q4c := q4.cell; have q4f := q4.frozen; clear step2 law2 hown hgrow hat q4; subst hW4)))
      have hl1 : (pre ++ [(x1, (⟨y0, y1, y2, y3, y4, y5, y6⟩ : Acc))]).length = pre.length + 1 := by simp
      refine ⟨(z7.out.trans t7).from _, Kl.below (n₀ := W.heap.size) (z8.out.trans t8) hlt5, ⟨⟨⟨⟨_, t1, ?_⟩, ⟨_, t3, ?_⟩⟩, t5, by rw [hl1]; exact hpm.out⟩, hBW.trans (z8.out.trans t8)⟩⟩
      · rw [hl1, nmc_snoc]; exact t2
      · rw [hl1, List.map_append, List.map_cons, List.map_nil, lgc_snoc]; exact t4
  case done =>
    rintro D ys Wd hD rfl ⟨⟨⟨⟨vn, hbn, hn⟩, ⟨vq, hbq, hq⟩⟩, hbm, hpl⟩, hBW⟩ hK
    have cn1 := hbn.cell
    have cq1 := hbq.cell
    obtain ⟨an, cn, rfl, _⟩ := hn.form
    obtain ⟨aq, cq, rfl, _⟩ := hq.form
    rw [ent_length] at *
    gi_wp2
    gi_region
    all_goals gi_wp2
    all_goals (refine ⟨by simp, .inl ⟨_, _, rfl, run_takeDeferred (w := Wd.drew) hK, ?_⟩⟩)
    all_goals (refine ⟨.tuple #[.slice an (lg.length - fr.toNat) cn, .slice aq (lg.length - fr.toNat) cq, .bool true], by simp [results, Try.f8, go_sem], _, _, (lg.length - fr.toNat), ?_, rfl, has_put hn hK rfl (fun k hk => by omega), has_put hq hK rfl (fun k hk => by omega), hBW.trans ((Below.drew (Below.refl _ Wd)).trans (belowK_b (w := W) (Nat.le_refl _) Wd.drew D _ _ (by omega) hK rfl rfl))⟩)
    all_goals (rw [Nat.min_eq_left hpl])
  case stop =>
    rintro D c pre Wd hD ⟨k, hk, rfl⟩ ⟨rfl, ini, last, e1, ⟨⟨⟨⟨vn, hbn, hn⟩, ⟨vq, hbq, hq⟩⟩, hbm, hpl⟩, hBW⟩, e3⟩ hK
    obtain ⟨k', rfl⟩ : ∃ k', k = k' + 1 := by
      cases k with
      | zero => simp [ent] at e1
      | succ k' => exact ⟨k', rfl⟩
    rw [ent_succ] at e1
    obtain ⟨rfl, _⟩ := List.append_inj' e1 rfl
    clear e1
    have cn1 := hbn.cell
    have cq1 := hbq.cell
    rw [ent_length] at *
    obtain ⟨an, cn, rfl, _⟩ := hn.form
    obtain ⟨aq, cq, rfl, _⟩ := hq.form
    have hmin : k' = min (lg.length - fr.toNat) most.toNat := by omega
    replace hmin := Mr.hid hmin
    clear hk e3 hpl
    gi_wp2
    gi_region
    all_goals gi_wp2
    all_goals (refine ⟨by simp, .inl ⟨_, _, rfl, run_takeDeferred (w := Wd.drew) hK, ?_⟩⟩)
    all_goals (refine ⟨.tuple #[.slice an k' cn, .slice aq k' cq, .bool true], by simp [results, Try.f8, go_sem], _, _, k', ?_, rfl, has_put hn hK rfl (fun k hk => by omega), has_put hq hK rfl (fun k hk => by omega), hBW.trans ((Below.drew (Below.refl _ Wd)).trans (belowK_b (w := W) (Nat.le_refl _) Wd.drew D _ _ (by omega) hK rfl rfl))⟩)
    all_goals exact hmin.out
end Go.Proofs.Ytkfcfhgjhnmjlaa.Me
