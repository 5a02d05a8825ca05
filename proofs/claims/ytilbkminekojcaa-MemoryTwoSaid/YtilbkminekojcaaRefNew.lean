/-
  append onto nil from whatever source; the document's New, Writes, After by their contracts.
-/
import Derived.Test.YtilbkminekojcaaRefRep
import Derived.Test.YtilbkminekojcaaMemPure
import Derived.Deep.RegionHeld3
namespace Go.Proofs.Ytilbkminekojcaa.Me
open Go.RowKit Mr
set_option linter.unusedVariables false
section
variable {P : Program} (w : World)
theorem run_append_none (t ty e : TypeId) (i : TypeInfo) (ht : P.underlying t = some (.slice e)) (hi : P.info? e = some i) (a0 : Option Addr) (c : Nat) :
    (Builtin.append_ #[t, t] ty #[.slice none 0 0, .slice a0 0 c]).run P w = .ok (.slice none 0 0) w := by
  cases a0 <;> simp [Builtin.append_, run_underlying ht, sizeOf, typeInfo, hi, Builtin.lenOf, Builtin.firstCells, loadCells, loadCellsFrom]
theorem run_append_fresh (S : Nat → Prop) (t ty e : TypeId) (i : TypeInfo) (z : Value) (size bytes : Nat) (ht : P.underlying t = some (.slice e)) (hi : P.info? e = some i) (hz : i.zero = some z)
    (hsize : i.size = size) (hby : i.bytes = bytes) (hzs : z.cells.size = size) (a0 : Option Addr) (m c : Nat) (news : List Value) (hl : news.length = m * size) (ha : a0 = none → m = 0) (hnews : ∀ ad, a0 = some ad → ∀ j u, news[j]? = some u → w.cell? (ad.add j) = some u)
    (h1 : ∀ u ∈ news, u.oneCell' = true) (h63 : m ≤ maxLen) (hbytes : (m + m / 4 + 192) * bytes ≤ 281474976710656) (hS : S w.heap.size) :
    ∃ v' w', (Builtin.append_ #[t, t] ty #[.slice none 0 0, .slice a0 m c]).run P w = .ok v' w' ∧ Has w' S e size v' m news ∧ w.grownBy w' none ∧ (∀ k, v'.ownBlock = some k → k = w.heap.size) := by
  by_cases hm : m = 0
  · subst hm
    have hn : news = [] := List.eq_nil_of_length_eq_zero (by simpa using hl)
    subst hn
    exact ⟨_, _, run_append_none w t ty e i ht hi a0 c, Has.nil _ _ _ _, ⟨rfl, rfl, rfl, Nat.le_refl _, fun _ _ _ => rfl⟩, fun k hk => by simp [Value.ownBlock] at hk⟩
  · cases a0 with
    | none => exact absurd (ha rfl) hm
    | some ad =>
      obtain ⟨g, cap, w', hr, h2, h3, h4⟩ := run_append_has (P := P) w S t ty e i z size bytes ht hi hz hsize hby hzs (.slice none 0 0) 0 [] (Has.nil _ _ _ _) ad m c news hl (hnews ad rfl) h1 (by omega) (by omega) (by rw [Nat.zero_add]; exact hbytes) hS
      rw [Nat.zero_add] at hr h2
      rw [List.nil_append] at h2
      refine ⟨_, w', hr, h2, h3, fun k hk => ?_⟩
      rcases h4 with h4 | h4
      · simp [Value.ownBlock] at h4
      · simp [Value.ownBlock] at hk
        omega
theorem wp_append_fresh {o : Oper} {a : Act} {K : Act → World → Prop} {Q : Exit → Act → World → Prop} (s x : Operand) (t : TypeId)
    (ho : o.op = .call { callee := .builtin .append, args := #[s, x], argTypes := #[t, t] })
    (S : Nat → Prop) (e : TypeId) (i : TypeInfo) (z : Value) (size bytes : Nat) (ht : P.underlying t = some (.slice e)) (hi : P.info? e = some i) (hz : i.zero = some z)
    (hsize : i.size = size) (hby : i.bytes = bytes) (hzs : z.cells.size = size) (hs : a.eval s = .slice none 0 0) (a0 : Option Addr) (m c : Nat) (news : List Value) (hx : a.eval x = .slice a0 m c) (hl : news.length = m * size) (ha : a0 = none → m = 0) (hnews : ∀ ad, a0 = some ad → ∀ j u, news[j]? = some u → w.cell? (ad.add j) = some u)
    (h1 : ∀ u ∈ news, u.oneCell' = true) (h63 : m ≤ maxLen) (hbytes : (m + m / 4 + 192) * bytes ≤ 281474976710656) (hS : S w.heap.size)
    (h : ∀ v' w', Has w' S e size v' m news → w.grownBy w' none → (∀ k, v'.ownBlock = some k → k = w.heap.size) → K (a.put o.dst v') w') : o.wp P a w K Q := by
  obtain ⟨v', w', hr, h2, h3, h4⟩ := run_append_fresh (P := P) w S t o.type e i z size bytes ht hi hz hsize hby hzs a0 m c news hl ha hnews h1 h63 hbytes hS
  unfold Oper.wp execOp
  simp only [ho, resolve, invoke, builtin, Sem.run_bind, Sem.run_pure, Result.andThen_ok, List.map_toArray, List.map_cons, List.map_nil, hs, hx, hr]
  exact h v' w' h2 h3 h4
theorem wpList_append_fresh {ops : Array Oper} {rest : List Oper} {o : Oper} {a : Act} {Q : Exit → Act → World → Prop} (hgd : o.guard = none) (s x : Operand) (t : TypeId)
    (ho : o.op = .call { callee := .builtin .append, args := #[s, x], argTypes := #[t, t] })
    (S : Nat → Prop) (e : TypeId) (i : TypeInfo) (z : Value) (size bytes : Nat) (ht : P.underlying t = some (.slice e)) (hi : P.info? e = some i) (hz : i.zero = some z)
    (hsize : i.size = size) (hby : i.bytes = bytes) (hzs : z.cells.size = size) (hs : a.eval s = .slice none 0 0) (a0 : Option Addr) (m c : Nat) (news : List Value) (hx : a.eval x = .slice a0 m c) (hl : news.length = m * size) (ha : a0 = none → m = 0) (hnews : ∀ ad, a0 = some ad → ∀ j u, news[j]? = some u → w.cell? (ad.add j) = some u)
    (h1 : ∀ u ∈ news, u.oneCell' = true) (h63 : m ≤ maxLen) (hbytes : (m + m / 4 + 192) * bytes ≤ 281474976710656) (hS : S w.heap.size)
    (h : ∀ v' w', Has w' S e size v' m news → w.grownBy w' none → (∀ k, v'.ownBlock = some k → k = w.heap.size) → wpList P ops Q rest (a.put o.dst v') w') : wpList P ops Q (o :: rest) a w :=
  wpList_plain hgd fun _ hK => wp_append_fresh w s x t ho S e i z size bytes ht hi hz hsize hby hzs hs a0 m c news hx hl ha hnews h1 h63 hbytes hS fun v' w' h2 h3 h4 => hK _ _ (h v' w' h2 h3 h4)
theorem step_append_fresh {ops : Array Oper} {o : Oper} {a : Act} {K : Act → World → Prop} {Q : Exit → Act → World → Prop} {E : Prop} (hgd : o.guard = none) (s x : Operand) (t : TypeId)
    (ho : o.op = .call { callee := .builtin .append, args := #[s, x], argTypes := #[t, t] })
    (S : Nat → Prop) (e : TypeId) (i : TypeInfo) (z : Value) (size bytes : Nat) (ht : P.underlying t = some (.slice e)) (hi : P.info? e = some i) (hz : i.zero = some z)
    (hsize : i.size = size) (hby : i.bytes = bytes) (hzs : z.cells.size = size) (hs : a.eval s = .slice none 0 0) (a0 : Option Addr) (m c : Nat) (news : List Value) (hx : a.eval x = .slice a0 m c) (hl : news.length = m * size) (ha : a0 = none → m = 0) (hnews : ∀ ad, a0 = some ad → ∀ j u, news[j]? = some u → w.cell? (ad.add j) = some u)
    (h1 : ∀ u ∈ news, u.oneCell' = true) (h63 : m ≤ maxLen) (hbytes : (m + m / 4 + 192) * bytes ≤ 281474976710656) (hS : S w.heap.size)
    (h : ∀ v' w', Has w' S e size v' m news → w.grownBy w' none → (∀ k, v'.ownBlock = some k → k = w.heap.size) → K (a.put o.dst v') w') :
    if Region.wanted o (yielded ops a.tmps) = true then Oper.wp P o a w K Q else E := by
  have hw : Region.wanted o (yielded ops a.tmps) = true := by simp [Region.wanted, hgd]
  rw [if_pos hw]
  exact wp_append_fresh w s x t ho S e i z size bytes ht hi hz hsize hby hzs hs a0 m c news hx hl ha hnews h1 h63 hbytes hS h
end
/-- A source's own facts, as append asks them. -/
theorem Src.news {W : World} {a : Option Addr} {n cap : Nat} {ws : List Int} (h : Src W a n cap ws) : (a = none → n = 0) ∧ ∀ ad, a = some ad → ∀ j u, (wrd ws)[j]? = some u → W.cell? (ad.add j) = some u := by
  rcases h.2 with ⟨rfl, rfl, rfl⟩ | ⟨ad, rfl, hc⟩
  · exact ⟨fun _ => rfl, fun ad h => (by cases h)⟩
  · exact ⟨fun h => (by cases h), fun ad' h => (by cases h; exact hc)⟩
theorem rnew_long (a : Option Addr) (n cap : Nat) (w : World) (hn : 8192 < n) :
    Calls Try.prog 32 #[.slice a n cap] w fun e w' => e = .returned (.tuple #[.pointer none, .int .i64 3]) ∧ w' = w := by
  have h1 : 8192 < (n : Int) := by omega
  go_enter Try.func32, Try.ntmps32
  go_wp2
  go_ret2
  exact ⟨rfl, rfl⟩
set_option maxRecDepth 100000 in
set_option maxHeartbeats 1000000 in
theorem rnew_any (a : Option Addr) (n cap : Nat) (ws : List Int) (w : World) (h : Src w a n cap ws) (hn : n ≤ 8192) :
    Calls Try.prog 32 #[.slice a n cap] w fun e w' => ∃ b vf vn, e = .returned (.tuple #[.pointer (some ⟨b, 0, none⟩), .int .i64 0]) ∧ Rm w' (fun k => w.heap.size ≤ k) b vf vn (.slice none 0 0) ws ws [] 0 ∧ Below w.heap.size w w' := by
  obtain ⟨i0, hi, hz0, hz1, hz2⟩ := info_parts info_u64
  have h1 : (n : Int) ≤ 8192 := by omega
  have hl := h.1
  obtain ⟨o0, ho0⟩ : ∃ o : Obj, o = .cells #[.slice none 0 0, .slice none 0 0, .slice none 0 0, .int .i64 0] 60 (0, 0) := ⟨_, rfl⟩
  have hB1 : Below w.heap.size w (w.alloc o0) := (Below.refl _ _).alloc (Nat.le_refl _) _
  have kb0 : (w.alloc o0).heap[w.heap.size]? = some o0 := heap_alloc_new w o0
  have hs1 := (h.below hB1).news
  have hsz : (w.alloc o0).heap.size = w.heap.size + 1 := by simp
  have nx : ∀ W' : World, Below w.heap.size w W' → (a = none → n = 0) ∧ ∀ ad, a = some ad → ∀ j u, (wrd ws)[j]? = some u → W'.cell? (ad.add j) = some u := fun W' hB => (h.below hB).news
  subst hl
  replace h := Mr.hid h
  rw [ho0] at kb0 hB1 hsz hs1
  replace hs1 := Mr.hid hs1
  replace nx := Mr.hid nx
  go_enter Try.func32, Try.ntmps32
  go_upto_region 4 with fail
  replace ho0 := Mr.hid ho0
  generalize hW0 : w.alloc (.cells #[.slice none 0 0, .slice none 0 0, .slice none 0 0, .int .i64 0] 60) = W0 at *
  have k00 : W0.cell? ⟨w.heap.size, 0, none⟩ = some (.slice none 0 0) := by simp [World.cell?, kb0]
  replace hW0 := Mr.hid hW0
  generalize hbb : w.heap.size = bb at *
  replace hbb := Mr.hid hbb
  go_upto_region 5 with (at_builtin; go_loud (refine wpList_append_fresh _ rfl (.tmp 14) (.tmp 15) 22 rfl (fun k => bb + 1 ≤ k) 31 i0 (.int .u64 0) 1 8 Try.underlying22 hi hz0 hz1 hz2 rfl rfl a ws.length cap (wrd ws) rfl (by simp [wrd_length]) hs1.out.1 (hs1.out.2) (wrd_one ws) (by unfold maxLen; omega) (by omega) (by omega) ?_; intro v1 w1 hv1 hg1 hat1; obtain ⟨a1, c1, rfl, _⟩ := hv1.form; have kb1 := (hg1.block bb (by omega) (by simp)).trans kb0; have k10 : w1.cell? ⟨bb, 0, none⟩ = some (.slice none 0 0) := (by simp [World.cell?, kb1]); have k1f : w1.frozen? ⟨bb, 0, none⟩ = false := (by simp [World.frozen?, kb1]); have k11 : w1.cell? ⟨bb, 1, none⟩ = some (.slice none 0 0) := (by simp [World.cell?, kb1]); replace hv1 := Mr.hid hv1; replace hg1 := Mr.hid hg1; replace hat1 := Mr.hid hat1))
  have B1 : Below bb w w1 := hB1.grown hg1.out (by omega) (fun k hk => by cases hk)
  have B1' : Below bb w (w1.setCell ⟨bb, 0, none⟩ (.slice a1 ws.length c1)) := B1.setCell (p := ⟨bb, 0, none⟩) (Nat.le_refl _) (.slice a1 ws.length c1)
  have kb2 : (w1.setCell ⟨bb, 0, none⟩ (.slice a1 ws.length c1)).heap[bb]? = some (.cells #[(.slice a1 ws.length c1), .slice none 0 0, .slice none 0 0, .int .i64 0] 60 (0, 0)) := by rw [setBlk kb1]; rfl
  have hvn : Value.ownBlock (.slice a1 ws.length c1) ≠ some bb := fun e => by have := (hv1.out.lt bb e).1; omega
  have hv1' : Has (w1.setCell ⟨bb, 0, none⟩ (.slice a1 ws.length c1)) (fun k => bb + 1 ≤ k) 31 1 (.slice a1 ws.length c1) ws.length (wrd ws) := hv1.out.setCell _ _ hvn
  have nx1 := nx.out _ B1'
  have k21 : (w1.setCell ⟨bb, 0, none⟩ (.slice a1 ws.length c1)).cell? ⟨bb, 1, none⟩ = some (.slice none 0 0) := by simp [World.cell?, kb2]
  have sz1 : bb < (w1.setCell ⟨bb, 0, none⟩ (.slice a1 ws.length c1)).heap.size := (Array.getElem?_eq_some_iff.1 kb2).1
  clear k10 k1f k11 kb1 k00 kb0 hB1
  replace B1' := Mr.hid B1'
  replace kb2 := Mr.hid kb2
  replace hv1' := Mr.hid hv1'
  replace nx1 := Mr.hid nx1
  clear hv1 hg1 hat1 B1 hs1
  generalize hW1 : w1.setCell ⟨bb, 0, none⟩ (.slice a1 ws.length c1) = W1 at *
  clear hW1
  go_wp2_with (at_builtin; refine wpList_append_fresh _ rfl (.tmp 23) (.tmp 24) 22 rfl (fun k => W1.heap.size ≤ k) 31 i0 (.int .u64 0) 1 8 Try.underlying22 hi hz0 hz1 hz2 rfl rfl a ws.length cap (wrd ws) rfl (by simp [wrd_length]) nx1.out.1 (nx1.out.2) (wrd_one ws) (by unfold maxLen; omega) (by omega) (by omega) ?_; intro v2 w2 hv2 hg2 hat2; obtain ⟨a2, c2, rfl, _⟩ := hv2.form; have kb3 := (hg2.block bb (by omega) (by simp)).trans kb2.out; have k20 : w2.cell? ⟨bb, 1, none⟩ = some (.slice none 0 0) := (by simp [World.cell?, kb3]); have k2f : w2.frozen? ⟨bb, 1, none⟩ = false := (by simp [World.frozen?, kb3]); replace hv2 := Mr.hid hv2; replace hg2 := Mr.hid hg2; replace hat2 := Mr.hid hat2)
  go_ret2
  have hv2n : Value.ownBlock (.slice a2 ws.length c2) ≠ some bb := fun e => by have := (hv2.out.lt bb e).1; omega
  have hv1n := hv1'.out
  have hbb := hbb.out
  have hvb : Value.ownBlock (.slice a1 ws.length c1) ≠ some bb := hvn
  refine ⟨bb, (.slice a1 ws.length c1), (.slice a2 ws.length c2), rfl, ⟨by rw [setBlk kb3]; rfl, (show w.heap.size ≤ bb by omega), ?_, ?_, Has.nil _ _ _ _, ?_, hn, hn⟩, ?_⟩
  · exact ((hv1n.grown hg2.out (fun k _ e => by cases e)).setCell _ _ hvb).mono (fun k hk => by omega)
  · exact (hv2.out.setCell _ _ hv2n).mono (fun k hk => by omega)
  · intro k h1 h2
    have e1 := (hv1n.lt k h1).2
    have e2 := (hv2.out.lt k h2).1
    omega
  · rw [hbb]
    exact ((B1'.out.grown hg2.out (by omega) (fun k hk => by cases hk)).setCell (p := ⟨bb, 1, none⟩) (Nat.le_refl _) (.slice a2 ws.length c2))
theorem rwrites_any (x0 x1 x2 x3 x4 x5 x6 : Int) (w : World) :
    Calls Try.prog 50 #[.agg #[.int .i64 x0, .int .i64 x1, .int .i64 x2, .int .i64 x3, .int .u64 x4, .int .u64 x5, .int .u64 x6]] w fun e w' => e = .returned (.bool (wrt ⟨x0, x1, x2, x3, x4, x5, x6⟩)) ∧ w' = w.alloc (.cells #[.int .i64 x0, .int .i64 x1, .int .i64 x2, .int .i64 x3, .int .u64 x4, .int .u64 x5, .int .u64 x6] 41) := by
  have e : wrt ⟨x0, x1, x2, x3, x4, x5, x6⟩ = ((x2 == 3 && x6 == x4) || x2 == 2) := rfl
  rw [e]
  clear e
  cases h1 : (x2 == 2)
  · cases h2 : (x2 == 3)
    · go_enter Try.func50, Try.ntmps50
      go_wp2
      go_ret
      exact ⟨by simp, rfl⟩
    · go_enter Try.func50, Try.ntmps50
      go_wp2
      go_ret
      exact ⟨by simp, rfl⟩
  · go_enter Try.func50, Try.ntmps50
    go_wp2
    go_ret
    exact ⟨by simp, rfl⟩
end Go.Proofs.Ytilbkminekojcaa.Me
