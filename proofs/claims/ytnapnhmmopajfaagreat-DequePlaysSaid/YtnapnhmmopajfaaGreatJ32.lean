import Derived.Test.YtnapnhmmopajfaaGreatJ31
import Derived.Test.YtnapnhmmopajfaaGreatJ02
import Derived.Deep.RegionHeld3
/-
  THE DOCUMENT's DEQUE: Move by its contract: the program's pure move.
-/
namespace Go.Proofs.YtnapnhmmopajfaaGreat.Rd
open Go.RowKit Mr Me Ma Gm Dm
set_option linter.unusedVariables false
set_option linter.unusedSimpArgs false
section
variable {W0 W : World} {U0 : Nat → Prop} {q : Rc} {s : Rs} {P : Pg Dt Lw}
theorem mv_r (G : Gm2 W0 U0 q s W P) (hlt : P.n < 65536) (th op arg data : Int) (hw : Wd arg) :
    Calls Tryz.prog 25 #[.pointer (some ⟨q.b, 0, none⟩), .agg #[.int .i64 th, .int .i64 op, .int .i64 arg, .int .i64 data]] W (Dm2 W0 U0 q P.n (P.move (dqY q.r) th op arg data).1 (P.move (dqY q.r) th op arg data).2) := by
  have hnt := G.nt
  unfold Pg.move
  rw [if_neg (by omega)]
  by_cases hth : 0 ≤ th ∧ th < P.pts.length
  · rw [if_pos hth]
    obtain ⟨i, rfl⟩ := Int.eq_ofNat_of_zero_le hth.1
    have hi : i < P.pts.length := by omega
    have hti : ((i : Int)).toNat = i := Int.toNat_natCast i
    rw [hti]
    obtain ⟨t, ht⟩ : ∃ t, P.pts[i]? = some t := ⟨_, List.getElem?_eq_getElem hi⟩
    simp only [ht]
    by_cases h0 : op = 0
    · subst h0
      rw [if_pos rfl]
      cases hk : t.tk with
      | none =>
        have e : P.count.step (dqY q.r) i t P.n = (P.count, false) := by unfold Pg.step; rw [hk]
        rw [e]
        exact move_idle0 G i arg data t ht hk
      | some k =>
        have e : P.count.step (dqY q.r) i t P.n = (P.count.stepE i t P.n (stp q.r t.fr i P.n P.ws P.g k), true) := by unfold Pg.step; rw [hk]; rfl
        rw [e]
        exact move_step G hlt i arg data t ht k hk
    · rw [if_neg h0]
      cases hk : t.tk with
      | some k =>
        rw [if_pos (show (some k).isSome = true from rfl)]
        exact move_busyN G i op arg data h0 t ht (by rw [hk]; rfl)
      | none =>
        rw [if_neg (show ¬ (none : Option Dt).isSome = true by simp)]
        by_cases h90 : op = 90
        · subst h90
          by_cases hi0 : i = 0
          · have e : P.count.begins (dqY q.r) i 90 arg data P.n = ({ P.count with cls := P.cls ++ [⟨i, 90, arg, data, P.n, -1, -1, 0, 0⟩], pts := P.pts.set i ⟨some (.push 1 arg 0), true, (P.cls.length : Int), 0, 0⟩ }, true) := by
              have hm : (dqY q.r).mkr i 90 arg data P.count.g = some (.push 1 arg 0) := (by show mk i 90 arg data P.g = _; unfold mk; rw [if_pos rfl, if_pos hi0])
              unfold Pg.begins; rw [hm]; rfl
            rw [e]
            exact begin_90 G hlt i arg data hi0 hw t ht hk
          · have e : P.count.begins (dqY q.r) i 90 arg data P.n = (P.count, false) := by
              have hm : (dqY q.r).mkr i 90 arg data P.count.g = none := (by show mk i 90 arg data P.g = _; unfold mk; rw [if_pos rfl, if_neg hi0])
              unfold Pg.begins; rw [hm]
            rw [e]
            exact refuse_90 G i arg data hi0 t ht hk
        · by_cases h91 : op = 91
          · subst h91
            by_cases hi0 : i = 0
            · have e : P.count.begins (dqY q.r) i 91 arg data P.n = ({ P.count with cls := P.cls ++ [⟨i, 91, arg, data, P.n, -1, -1, 0, 0⟩], pts := P.pts.set i ⟨some (.take 1 0 0 0), true, (P.cls.length : Int), 0, 0⟩ }, true) := by
                have hm : (dqY q.r).mkr i 91 arg data P.count.g = some (.take 1 0 0 0) := (by show mk i 91 arg data P.g = _; unfold mk; rw [if_neg (by decide), if_pos rfl, if_pos hi0])
                unfold Pg.begins; rw [hm]; rfl
              rw [e]
              exact begin_91 G hlt i arg data hi0 t ht hk
            · have e : P.count.begins (dqY q.r) i 91 arg data P.n = (P.count, false) := by
                have hm : (dqY q.r).mkr i 91 arg data P.count.g = none := (by show mk i 91 arg data P.g = _; unfold mk; rw [if_neg (by decide), if_pos rfl, if_neg hi0])
                unfold Pg.begins; rw [hm]
              rw [e]
              exact refuse_91 G i arg data hi0 t ht hk
          · by_cases h92 : op = 92
            · subst h92
              have e : P.count.begins (dqY q.r) i 92 arg data P.n = ({ P.count with cls := P.cls ++ [⟨i, 92, arg, data, P.n, -1, -1, 0, 0⟩], pts := P.pts.set i ⟨some (.steal 1 0 0), true, (P.cls.length : Int), 0, 0⟩ }, true) := by
                have hm : (dqY q.r).mkr i 92 arg data P.count.g = some (.steal 1 0 0) := (by show mk i 92 arg data P.g = _; unfold mk; rw [if_neg (by decide), if_neg (by decide), if_pos rfl])
                unfold Pg.begins; rw [hm]; rfl
              rw [e]
              exact begin_92 G hlt i arg data t ht hk
            · have e : P.count.begins (dqY q.r) i op arg data P.n = (P.count, false) := by
                have hm : (dqY q.r).mkr i op arg data P.count.g = none := (by show mk i op arg data P.g = _; unfold mk; rw [if_neg h90, if_neg h91, if_neg h92])
                unfold Pg.begins; rw [hm]
              rw [e]
              exact refuse_no G i arg data op h0 h90 h91 h92 t ht hk
  · rw [if_neg hth]
    exact move_out G th op arg data (by omega)
set_option maxRecDepth 100000 in
set_option maxHeartbeats 1000000 in
theorem Move_r (G : Gm2 W0 U0 q s W P) (th op arg data : Int) (hw : Wd arg) :
    Calls Tryz.prog 12 #[.pointer (some ⟨q.b, 0, none⟩), .agg #[.int .i64 th, .int .i64 op, .int .i64 arg, .int .i64 data]] W fun e w' => e = .returned (.bool (P.move (dqY q.r) th op arg data).2) ∧ ∃ s', Gm2 W0 U0 q s' w' (P.move (dqY q.r) th op arg data).1 := by
  have hiv := G.iv.move th op arg data
  have hbd := mv_bd (r := q.r) G.bd th op arg data
  have hnn := G.n
  obtain ⟨G1, x0, x1, x2, x3, l1, l2⟩ := OutR.boxed G th op arg data rfl
  obtain ⟨c0, c1, c2, c3, c6, c7, c8, fb, ft, fw⟩ := G1.o.b0
  by_cases hn : 65536 ≤ P.n
  · have e : P.move (dqY q.r) th op arg data = (P, false) := by unfold Pg.move; rw [if_pos hn]
    rw [e] at hiv hbd ⊢
    have d1 : decide ((65536 : Int) ≤ s.n) = true := by rw [hnn]; simp; omega
    unfold mvO at x0 x1 x2 x3 c0 c1 c2 c3 c6 c7 c8 fb ft fw
    replace G1 := Mr.hid G1
    replace hnn := Mr.hid hnn
    replace hn := Mr.hid hn
    clear G hiv hbd e
    go_enter Tryz.func12, Tryz.ntmps12
    go_wp2
    go_ret
    exact ⟨rfl, s, G1.out⟩
  · have hlt : P.n < 65536 := by omega
    have hnm := move_n P hlt (Y := dqY q.r) th op arg data
    have d1 : decide ((65536 : Int) ≤ s.n) = false := by rw [hnn]; simp; omega
    have C := mv_r G1 hlt th op arg data hw
    unfold mvO at x0 x1 x2 x3 c0 c1 c2 c3 c6 c7 c8 fb ft fw C
    generalize (P.move (dqY q.r) th op arg data).2 = bb at *
    generalize (P.move (dqY q.r) th op arg data).1 = Q at *
    have fin : Hid (∀ (w1 : World) (s' : Rs), OutR W0 U0 q s' w1 → s'.n = P.n → Sm Q s' → ∃ s'', Gm2 W0 U0 q s'' (w1.setCell ⟨q.b, 6, none⟩ (.int .i64 ((P.n : Int) + 1))) Q) := Mr.hid (fun w1 s' h1 h2 h3 => ⟨_, h1.setN ((P.n : Int) + 1), h3.setn _, by show ((P.n : Int) + 1) = _; rw [hnm]; push_cast; rfl, hiv, hbd⟩)
    have u1 : wrap64 ((P.n : Int) + 1) = (P.n : Int) + 1 := w64s _ (by omega) (by omega)
    replace G1 := Mr.hid G1
    replace C := Mr.hid C
    replace hnn := Mr.hid hnn
    replace hn := Mr.hid hn
    replace hlt := Mr.hid hlt
    clear G hiv hbd hnm
    go_enter Tryz.func12, Tryz.ntmps12
    go_wp2_with (go_at_call 25; refine C.out.mono ?_; clear C; rintro e w1 ⟨rfl, s', h1, h2, h3⟩; clear c0 c1 c2 c3 c6 c7 c8 fb ft fw x0 x1 x2 x3; obtain ⟨c0, c1, c2, c3, c6, c7, c8, fb, ft, fw⟩ := h1.b0; rw [h2] at c6; have F1 := Mr.hid (fin.out w1 s' h1 h2 h3); clear h1 h2 h3 fin)
    go_ret
    exact ⟨rfl, F1.out⟩
end
end Go.Proofs.YtnapnhmmopajfaaGreat.Rd
/-
  append onto nil from whatever source.
-/
namespace Go.Proofs.YtnapnhmmopajfaaGreat.Me
open Go.RowKit Mr
set_option linter.unusedVariables false
section
variable {P : Program} (w : World)
theorem run_append_none (t ty e : TypeId) (i : TypeInfo) (ht : P.underlying t = some (.slice e)) (hi : P.info? e = some i) (a0 : Option Addr) (c : Nat) :
    (Builtin.append_ #[t, t] ty #[.slice none 0 0, .slice a0 0 c]).run P w = .ok (.slice none 0 0) w := by
  cases a0 <;> simp [Builtin.append_, run_underlying ht, sizeOf, typeInfo, hi, Builtin.lenOf, Builtin.firstCells, loadCells, loadCellsFrom]
theorem run_append_fresh (S : Nat → Prop) (t ty e : TypeId) (i : TypeInfo) (z : Value) (size bytes : Nat) (ht : P.underlying t = some (.slice e)) (hi : P.info? e = some i) (hz : i.zero = some z)
    (hsize : i.size = size) (hby : i.bytes = bytes) (hzs : z.cells.size = size) (a0 : Option Addr) (m c : Nat) (news : List Value) (hl : news.length = m * size) (ha : a0 = none → m = 0) (hnews : ∀ ad, a0 = some ad → ∀ j u, news[j]? = some u → w.cell? (ad.add j) = some u)
    (h1 : ∀ u ∈ news, u.oneCell' = true) (h63 : m ≤ maxLen) (hbytes : (m + m / 4 + 192) * bytes ≤ 281474976710656) (hS : S w.heap.size) :
    ∃ v' w', (Builtin.append_ #[t, t] ty #[.slice none 0 0, .slice a0 m c]).run P w = .ok v' w' ∧ Has w' S e size v' m news ∧ w.grownBy w' none ∧ (∀ k, v'.ownBlock = some k → k = w.heap.size) := by
  by_cases hm : m = 0
  · subst hm
    have hn : news = [] := List.eq_nil_of_length_eq_zero (by simpa using hl)
    subst hn
    exact ⟨_, _, run_append_none w t ty e i ht hi a0 c, Has.nil _ _ _ _, ⟨rfl, rfl, rfl, Nat.le_refl _, fun _ _ _ => rfl⟩, fun k hk => by simp [Value.ownBlock] at hk⟩
  · cases a0 with
    | none => exact absurd (ha rfl) hm
    | some ad =>
      obtain ⟨g, cap, w', hr, h2, h3, h4⟩ := run_append_has (P := P) w S t ty e i z size bytes ht hi hz hsize hby hzs (.slice none 0 0) 0 [] (Has.nil _ _ _ _) ad m c news hl (hnews ad rfl) h1 (by omega) (by omega) (by rw [Nat.zero_add]; exact hbytes) hS
      rw [Nat.zero_add] at hr h2
      rw [List.nil_append] at h2
      refine ⟨_, w', hr, h2, h3, fun k hk => ?_⟩
      rcases h4 with h4 | h4
      · simp [Value.ownBlock] at h4
      · simp [Value.ownBlock] at hk
        omega
theorem wp_append_fresh {o : Oper} {a : Act} {K : Act → World → Prop} {Q : Exit → Act → World → Prop} (s x : Operand) (t : TypeId)
    (ho : o.op = .call { callee := .builtin .append, args := #[s, x], argTypes := #[t, t] })
    (S : Nat → Prop) (e : TypeId) (i : TypeInfo) (z : Value) (size bytes : Nat) (ht : P.underlying t = some (.slice e)) (hi : P.info? e = some i) (hz : i.zero = some z)
    (hsize : i.size = size) (hby : i.bytes = bytes) (hzs : z.cells.size = size) (hs : a.eval s = .slice none 0 0) (a0 : Option Addr) (m c : Nat) (news : List Value) (hx : a.eval x = .slice a0 m c) (hl : news.length = m * size) (ha : a0 = none → m = 0) (hnews : ∀ ad, a0 = some ad → ∀ j u, news[j]? = some u → w.cell? (ad.add j) = some u)
    (h1 : ∀ u ∈ news, u.oneCell' = true) (h63 : m ≤ maxLen) (hbytes : (m + m / 4 + 192) * bytes ≤ 281474976710656) (hS : S w.heap.size)
    (h : ∀ v' w', Has w' S e size v' m news → w.grownBy w' none → (∀ k, v'.ownBlock = some k → k = w.heap.size) → K (a.put o.dst v') w') : o.wp P a w K Q := by
  obtain ⟨v', w', hr, h2, h3, h4⟩ := run_append_fresh (P := P) w S t o.type e i z size bytes ht hi hz hsize hby hzs a0 m c news hl ha hnews h1 h63 hbytes hS
  unfold Oper.wp execOp
  simp only [ho, resolve, invoke, builtin, Sem.run_bind, Sem.run_pure, Result.andThen_ok, List.map_toArray, List.map_cons, List.map_nil, hs, hx, hr]
  exact h v' w' h2 h3 h4
theorem wpList_append_fresh {ops : Array Oper} {rest : List Oper} {o : Oper} {a : Act} {Q : Exit → Act → World → Prop} (hgd : o.guard = none) (s x : Operand) (t : TypeId)
    (ho : o.op = .call { callee := .builtin .append, args := #[s, x], argTypes := #[t, t] })
    (S : Nat → Prop) (e : TypeId) (i : TypeInfo) (z : Value) (size bytes : Nat) (ht : P.underlying t = some (.slice e)) (hi : P.info? e = some i) (hz : i.zero = some z)
    (hsize : i.size = size) (hby : i.bytes = bytes) (hzs : z.cells.size = size) (hs : a.eval s = .slice none 0 0) (a0 : Option Addr) (m c : Nat) (news : List Value) (hx : a.eval x = .slice a0 m c) (hl : news.length = m * size) (ha : a0 = none → m = 0) (hnews : ∀ ad, a0 = some ad → ∀ j u, news[j]? = some u → w.cell? (ad.add j) = some u)
    (h1 : ∀ u ∈ news, u.oneCell' = true) (h63 : m ≤ maxLen) (hbytes : (m + m / 4 + 192) * bytes ≤ 281474976710656) (hS : S w.heap.size)
    (h : ∀ v' w', Has w' S e size v' m news → w.grownBy w' none → (∀ k, v'.ownBlock = some k → k = w.heap.size) → wpList P ops Q rest (a.put o.dst v') w') : wpList P ops Q (o :: rest) a w :=
  wpList_plain hgd fun _ hK => wp_append_fresh w s x t ho S e i z size bytes ht hi hz hsize hby hzs hs a0 m c news hx hl ha hnews h1 h63 hbytes hS fun v' w' h2 h3 h4 => hK _ _ (h v' w' h2 h3 h4)
theorem step_append_fresh {ops : Array Oper} {o : Oper} {a : Act} {K : Act → World → Prop} {Q : Exit → Act → World → Prop} {E : Prop} (hgd : o.guard = none) (s x : Operand) (t : TypeId)
    (ho : o.op = .call { callee := .builtin .append, args := #[s, x], argTypes := #[t, t] })
    (S : Nat → Prop) (e : TypeId) (i : TypeInfo) (z : Value) (size bytes : Nat) (ht : P.underlying t = some (.slice e)) (hi : P.info? e = some i) (hz : i.zero = some z)
    (hsize : i.size = size) (hby : i.bytes = bytes) (hzs : z.cells.size = size) (hs : a.eval s = .slice none 0 0) (a0 : Option Addr) (m c : Nat) (news : List Value) (hx : a.eval x = .slice a0 m c) (hl : news.length = m * size) (ha : a0 = none → m = 0) (hnews : ∀ ad, a0 = some ad → ∀ j u, news[j]? = some u → w.cell? (ad.add j) = some u)
    (h1 : ∀ u ∈ news, u.oneCell' = true) (h63 : m ≤ maxLen) (hbytes : (m + m / 4 + 192) * bytes ≤ 281474976710656) (hS : S w.heap.size)
    (h : ∀ v' w', Has w' S e size v' m news → w.grownBy w' none → (∀ k, v'.ownBlock = some k → k = w.heap.size) → K (a.put o.dst v') w') :
    if Region.wanted o (yielded ops a.tmps) = true then Oper.wp P o a w K Q else E := by
  have hw : Region.wanted o (yielded ops a.tmps) = true := by simp [Region.wanted, hgd]
  rw [if_pos hw]
  exact wp_append_fresh w s x t ho S e i z size bytes ht hi hz hsize hby hzs hs a0 m c news hx hl ha hnews h1 h63 hbytes hS h
end
/-- A source's own facts, as append asks them. -/
theorem Src.news {W : World} {a : Option Addr} {n cap : Nat} {ws : List Int} (h : Src W a n cap ws) : (a = none → n = 0) ∧ ∀ ad, a = some ad → ∀ j u, (wrd ws)[j]? = some u → W.cell? (ad.add j) = some u := by
  rcases h.2 with ⟨rfl, rfl, rfl⟩ | ⟨ad, rfl, hc⟩
  · exact ⟨fun _ => rfl, fun ad h => (by cases h)⟩
  · exact ⟨fun h => (by cases h), fun ad' h => (by cases h; exact hc)⟩
end Go.Proofs.YtnapnhmmopajfaaGreat.Me
