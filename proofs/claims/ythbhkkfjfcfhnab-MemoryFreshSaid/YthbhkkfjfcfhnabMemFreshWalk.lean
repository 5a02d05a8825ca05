/-
  THE LAW MemoryFresh.
-/
import Derived.Test.YthbhkkfjfcfhnabMemBehind
namespace Go.Proofs.Ythbhkkfjfcfhnab.Me
open Go.RowKit Mr
set_option linter.unusedVariables false
section
variable {P : Program} (w : World)
/-- append, one element, onto such a row: in its block, or in a new one and nothing else has turned. -/
theorem run_append_one (S : Nat → Prop) (t ty e : TypeId) (i : TypeInfo) (z : Value) (ht : P.underlying t = some (.slice e)) (hi : P.info? e = some i) (hz : i.zero = some z)
    (hsize : i.size = 1) (hby : i.bytes = 8) (hzs : z.cells.size = 1)
    (v : Value) (n : Nat) (xs : List Value) (hown : Has w S e 1 v n xs) (a : Addr) (c : Nat) (u : Value) (hnews : ∀ j u', [u][j]? = some u' → w.cell? (a.add j) = some u') (h1 : u.oneCell' = true) (hn : n ≤ 100000) (hS : S w.heap.size) :
    ∃ g cap w', (Builtin.append_ #[t, t] ty #[v, .slice (some a) 1 c]).run P w = .ok (.slice (some ⟨g, 0, none⟩) (n + 1) cap) w' ∧ Has w' S e 1 (.slice (some ⟨g, 0, none⟩) (n + 1) cap) (n + 1) (xs ++ [u]) ∧ w.grownBy w' v.ownBlock ∧
      (v.ownBlock = some g ∨ (g = w.heap.size ∧ w.grownBy w' none)) := by
  have hlen : (xs ++ [u]).length = (n + 1) * 1 := by rw [List.length_append, hown.1]; simp
  have hx1 : xs.length = n * i.size := by rw [hsize]; exact hown.1
  have hl : [u].length = 1 * i.size := by rw [hsize]; rfl
  have hm63 : n + 1 ≤ maxLen := by unfold maxLen; omega
  rcases hown.2 with ⟨rfl, rfl⟩ | ⟨g, cap, cur, rfl, hbg, hg, hnc, hcm, hcs, htake⟩
  · have hx : xs = [] := List.eq_nil_of_length_eq_zero (by simpa using hown.1)
    subst hx
    have hr := run_append_nil (P := P) w t ty e i z ht hi hz a 1 c [u] hl hnews (by omega) (by omega) (by rw [hby]; decide)
    have hgr := grown_has w e 1 z hzs (0 + 1) 0 hm63 S hS ([] ++ [u]) hlen #[] [u].toArray (by simp) none
    simp only [Nat.zero_add, List.nil_append, Array.empty_append] at hgr ⊢
    exact ⟨_, _, _, hr, hgr.1, hgr.2, .inr ⟨rfl, hgr.2⟩⟩
  · by_cases hroom : n + 1 ≤ cap
    · have hfit : n * i.size + [u].length ≤ cur.size := by rw [hsize]; simp; omega
      have hr := run_append_room (P := P) w t ty e i ht hi g n cap cur hg a 1 c [u] hl hnews (by simpa using h1) hroom hfit
      rw [hsize] at hr
      refine ⟨_, _, _, hr, ⟨hlen, .inr ⟨g, cap, _, rfl, hbg, setRow_heap w g cur _ e _ hg, hroom, hcm, ?_, ?_⟩⟩, ⟨rfl, rfl, rfl, by simp, fun k _ hk => setRow_other w g k _ (fun e => hk (by simp [Value.ownBlock, e]))⟩, .inl rfl⟩
      · simp only [List.size_toArray, List.length_append, List.length_take, List.length_drop, Array.length_toList]
        simp at hfit ⊢
        omega
      · rw [htake, ← hlen]
        exact List.take_left
    · have holds : ∀ j u', xs[j]? = some u' → w.cell? ((⟨g, 0, none⟩ : Addr).add j) = some u' := fun j u' hu => by
        have hadd : (⟨g, 0, none⟩ : Addr).add j = ⟨g, j, none⟩ := by unfold Addr.add; split <;> simp_all
        rw [hadd]; exact hown.cells (g := g) rfl j u' hu
      have hr := run_append_grow (P := P) w t ty e i z ht hi hz ⟨g, 0, none⟩ n cap xs hx1 holds a 1 c [u] hl hnews (by omega) (by omega) (growslice_fits_wide (by omega) (by rw [hby]; omega))
      have hgr := grown_has w e 1 z hzs (n + 1) cap hm63 S hS (xs ++ [u]) hlen xs.toArray [u].toArray (by simp) none
      exact ⟨_, _, _, hr, hgr.1, ⟨hgr.2.os, hgr.2.tape, hgr.2.output, hgr.2.size, fun k hk _ => hgr.2.block k hk (by simp)⟩, .inr ⟨rfl, hgr.2⟩⟩
theorem wpList_append_one {ops : Array Oper} {rest : List Oper} {o : Oper} {a : Act} {Q : Exit → Act → World → Prop} (hgd : o.guard = none) (s x : Operand) (t : TypeId)
    (ho : o.op = .call { callee := .builtin .append, args := #[s, x], argTypes := #[t, t] })
    (S : Nat → Prop) (e : TypeId) (i : TypeInfo) (z : Value) (ht : P.underlying t = some (.slice e)) (hi : P.info? e = some i) (hz : i.zero = some z) (hsize : i.size = 1) (hby : i.bytes = 8) (hzs : z.cells.size = 1)
    (v : Value) (n : Nat) (xs : List Value) (hs : a.eval s = v) (hown : Has w S e 1 v n xs) (ad : Addr) (c : Nat) (u : Value) (hx : a.eval x = .slice (some ad) 1 c) (hnews : ∀ j u', [u][j]? = some u' → w.cell? (ad.add j) = some u') (h1 : u.oneCell' = true) (hn : n ≤ 100000) (hS : S w.heap.size)
    (h : ∀ g cap w', Has w' S e 1 (.slice (some ⟨g, 0, none⟩) (n + 1) cap) (n + 1) (xs ++ [u]) → w.grownBy w' v.ownBlock → (v.ownBlock = some g ∨ (g = w.heap.size ∧ w.grownBy w' none)) → wpList P ops Q rest (a.put o.dst (.slice (some ⟨g, 0, none⟩) (n + 1) cap)) w') : wpList P ops Q (o :: rest) a w :=
  wpList_plain hgd fun _ hK => by
    obtain ⟨g, cap, w', hr, h2, h3, h4⟩ := run_append_one (P := P) w S t o.type e i z ht hi hz hsize hby hzs v n xs hown ad c u hnews h1 hn hS
    unfold Oper.wp execOp
    simp only [ho, resolve, invoke, builtin, Sem.run_bind, Sem.run_pure, Result.andThen_ok, List.map_toArray, List.map_cons, List.map_nil, hs, hx, hr]
    exact hK _ _ (h g cap w' h2 h3 h4)
end
/-- The first cells of the block to which v leads hold c. -/
def Are (W : World) (v : Value) (n : Nat) (c : Int) : Prop := ∀ g, v.ownBlock = some g → g < W.heap.size ∧ ∀ i, i < n → W.cell? ⟨g, i, none⟩ = some (.int .u64 c)
theorem Are.grown {W W' : World} {v : Value} {n : Nat} {c : Int} {row : Option Nat} (h : Are W v n c) (hg : W.grownBy W' row) (hne : ∀ g, v.ownBlock = some g → row ≠ some g) : Are W' v n c := fun g hv =>
  ⟨Nat.lt_of_lt_of_le (h g hv).1 hg.size, fun i hi => (World.cell?_of_block (hg.block g (h g hv).1 (fun e => hne g hv e.symm))).trans ((h g hv).2 i hi)⟩
def fill (c : Int) (i : Nat) (l : List Int) : List Int := List.replicate i c ++ l.drop i
theorem fill_length (c : Int) (i : Nat) (l : List Int) (h : i ≤ l.length) : (fill c i l).length = l.length := by simp [fill]; omega
theorem fill_succ (c : Int) (i : Nat) (l : List Int) (h : i < l.length) : (fill c i l).set i c = fill c (i + 1) l := by
  unfold fill
  rw [List.set_append_right _ _ (by simp), List.length_replicate, Nat.sub_self, List.drop_eq_getElem_cons h, List.set_cons_zero, List.replicate_succ', List.append_assoc]
  rfl
theorem xstep {W W' : World} {o : Obj} {SX SY : Nat → Prop} {vx vy vA vB : Value} {m m' n g cap : Nat} {xs ys : List Value} {c d : Int} {u : Value} (hx : Has W SX 25 1 vx m xs) (hy : Has W SY 25 1 vy m' ys) (hd : ∀ g, vx.ownBlock = some g → vy.ownBlock ≠ some g)
    (hA : Are W vA n c) (hB : Are W vB n d) (hpre : ∀ i, i < n → xs[i]? = some (.int .u64 c)) (hxB : ∀ g, vB.ownBlock = some g → vx.ownBlock ≠ some g)
    (hown : Has W' SX 25 1 (.slice (some ⟨g, 0, none⟩) (m + 1) cap) (m + 1) (xs ++ [u])) (hgrow : (W.alloc o).grownBy W' vx.ownBlock) (hat : vx.ownBlock = some g ∨ (g = (W.alloc o).heap.size ∧ (W.alloc o).grownBy W' none)) (p : Nat) (hp : p ≤ W.heap.size) (hSp : ∀ k, SX k → p ≤ k) :
    Has W' SY 25 1 vy m' ys ∧ (∀ g', (Value.slice (some ⟨g, 0, none⟩) (m + 1) cap).ownBlock = some g' → vy.ownBlock ≠ some g') ∧ Are W' vA n c ∧ Are W' vB n d ∧ Below p W W' := by
  have hA0 : Are (W.alloc o) vA n c := hA.grown (World.grownBy_alloc W o none) (fun _ _ => by simp)
  have hB0 : Are (W.alloc o) vB n d := hB.grown (World.grownBy_alloc W o none) (fun _ _ => by simp)
  refine ⟨(hy.alloc o).grown hgrow (fun k hk e => hd k e hk), ?_, ?_, hB0.grown hgrow (fun g' hg' => hxB g' hg'), ?_⟩
  · intro g' hg' e
    simp [Value.ownBlock] at hg'
    subst hg'
    rcases hat with h | ⟨h, _⟩
    · exact hd _ h e
    · have := (hy.lt _ e).2
      simp at h
      omega
  · intro g' hv
    by_cases hsame : vx.ownBlock = some g'
    · rcases hat with h | ⟨_, hn⟩
      · have e : g = g' := by rw [h] at hsame; simpa using hsame
        subst e
        refine ⟨(hown.lt g rfl).2, fun i hi => hown.cells (g := g) rfl i _ ?_⟩
        have h1 := hpre i hi
        rw [List.getElem?_append_left (List.getElem?_eq_some_iff.1 h1).1]
        exact h1
      · exact hA0.grown hn (fun _ _ => by simp) g' hv
    · exact ⟨Nat.lt_of_lt_of_le (hA0 g' hv).1 hgrow.size, fun i hi => (World.cell?_of_block (hgrow.block g' (hA0 g' hv).1 (fun e => hsame e.symm))).trans ((hA0 g' hv).2 i hi)⟩
  · exact ((Below.refl p W).alloc hp o).grown hgrow (by simp; omega) (fun k hk => hSp k (hx.lt k hk).1)
theorem rep_get (n i : Nat) (c d : Int) (k : Nat) (hk : k < n) : (wrd (List.replicate n c ++ List.replicate i d))[k]? = some (.int .u64 c) := by simp [wrd, List.getElem?_append, hk]
theorem rep_get2 (n i : Nat) (c d : Int) (k : Nat) (hk : n ≤ k) (hk2 : k < n + i) : (wrd (List.replicate n c ++ List.replicate i d))[k]? = some (.int .u64 d) := by
  have h1 : ¬ k < n := by omega
  have h2 : k - n < i := by omega
  simp [wrd, List.getElem?_append, h1, h2]
theorem rep_snoc (n i : Nat) (c d : Int) : wrd (List.replicate n c ++ List.replicate i d) ++ [.int .u64 d] = wrd (List.replicate n c ++ List.replicate (i + 1) d) := by
  simp [wrd, List.replicate_succ']
/-- One more, modulo 2^64. -/
def up (x : Int) : Int := IntKind.u64.wrap (x + 1)
/-- The first i of them raised by one. -/
def inc (i : Nat) (ws : List Int) : List Int := (ws.take i).map up ++ ws.drop i
theorem inc_zero (ws : List Int) : inc 0 ws = ws := by simp [inc]
theorem inc_length (i : Nat) (ws : List Int) : (inc i ws).length = ws.length := by simp [inc]; omega
theorem inc_get (i : Nat) (ws : List Int) (j : Nat) (hj : j < ws.length) : (inc i ws)[j]?.getD 0 = if j < i then up (ws[j]?.getD 0) else ws[j]?.getD 0 := by
  unfold inc
  by_cases h : j < i
  · rw [List.getElem?_append_left (by simp; omega), if_pos h]
    simp [h, hj]
  · rw [List.getElem?_append_right (by simp; omega), if_neg h]
    simp
    congr 2
    omega
theorem inc_succ (i : Nat) (ws : List Int) (hi : i < ws.length) (tl : List Int) : (inc i ws ++ tl).set i (up (ws[i]?.getD 0)) = inc (i + 1) ws ++ tl := by
  apply List.ext_getElem?
  intro j
  rw [List.getElem?_set]
  by_cases h1 : j < ws.length
  · rw [List.getElem?_append_left (by rw [inc_length]; exact h1), List.getElem?_append_left (by rw [inc_length]; exact h1)]
    have e1 := inc_get i ws j h1
    have e2 := inc_get (i + 1) ws j h1
    have l1 : j < (inc i ws).length := by rw [inc_length]; exact h1
    have l2 : j < (inc (i + 1) ws).length := by rw [inc_length]; exact h1
    rw [List.getElem?_eq_getElem l1, List.getElem?_eq_getElem l2] at *
    simp only [Option.getD_some] at e1 e2
    rw [e1, e2]
    by_cases e : i = j
    · subst e
      simp [inc_length, h1]
      omega
    · rw [if_neg e]
      congr 1
      split <;> split <;> first | rfl | omega
  · have e : i ≠ j := by omega
    rw [if_neg e, List.getElem?_append_right (by rw [inc_length]; omega), List.getElem?_append_right (by rw [inc_length]; omega), inc_length, inc_length]
theorem access_run {wr : World} {n₀ b : Nat} {ws : List Int} {os : List O} {i : Nat} (hi : i < os.length) (hb : Hid ((os.length + os.length / 4 + 192) * 56 ≤ 281474976710656)) (hM : MemS wr (fun k => n₀ ≤ k) b (runs ws (os.take i)) 0) (hn : n₀ ≤ wr.heap.size) :
    Calls Try.prog 9 #[.pointer (some ⟨b, 0, none⟩), .agg #[.int .i64 (os[i]?.getD noO).k, .int .i64 (os[i]?.getD noO).th, .int .i64 (os[i]?.getD noO).ad, .int .i64 (os[i]?.getD noO).n, .int .u64 (os[i]?.getD noO).old, .int .u64 (os[i]?.getD noO).w]] wr fun e w' =>
      e = .returned (.tuple #[]) ∧ MemS w' (fun k => n₀ ≤ k) b (runs ws (os.take (i + 1))) 0 ∧ Below n₀ wr w' := by
  refine (access_any hM (runs_roomy ws os i hi hb.out) (os[i]?.getD noO)).mono ?_
  rintro e w' ⟨rfl, h1, h2⟩
  rw [runs_snoc ws os i hi]
  exact ⟨rfl, h1.mono (fun k hk => by rcases hk with hk | hk <;> omega), h2.below (fun k hk => hk) hn⟩
theorem src_at {W : World} {a : Option Addr} {n cap : Nat} {ws : List Int} (h : Src W a n cap ws) (i : Nat) (hi : i < ws.length) : ∃ bw ow, a = some ⟨bw, ow, none⟩ ∧ bw < W.heap.size ∧ W.cell? ⟨bw, ow + i, none⟩ = some (.int .u64 (ws[i]?.getD 0)) := by
  rcases h.2 with ⟨_, h0, _⟩ | ⟨ad, rfl, hc⟩
  · have := h.1; omega
  · have c := hc i _ (wrd_get ws i hi)
    have c0 := hc 0 _ (wrd_get ws 0 (by omega))
    obtain ⟨bw, ow, sp⟩ := ad
    have hsp : sp = none := by
      have := World.cell?_spot c0
      simpa [Addr.add] using this
    subst hsp
    have hadd : (⟨bw, ow, none⟩ : Addr).add i = ⟨bw, ow + i, none⟩ := by unfold Addr.add; split <;> simp_all
    rw [hadd] at c
    exact ⟨bw, ow, rfl, World.block_lt_of_cell? W _ c, c⟩
/-- The first n words of a longer row. -/
theorem src_prefix {W : World} {S : Nat → Prop} {g c : Nat} {ws : List Int} {x : Int} (h : Has W S 25 1 (.slice (some ⟨g, 0, none⟩) (ws.length + 1) c) (ws.length + 1) (wrd (ws ++ [x]))) : Src W (some ⟨g, 0, none⟩) ws.length c ws := by
  refine ⟨rfl, .inr ⟨_, rfl, fun j u hu => ?_⟩⟩
  have hadd : (⟨g, 0, none⟩ : Addr).add j = ⟨g, j, none⟩ := by unfold Addr.add; split <;> simp_all
  rw [hadd]
  refine h.cells (g := g) rfl j u ?_
  rw [wrd_snoc, List.getElem?_append_left (List.getElem?_eq_some_iff.1 hu).1]
  exact hu
set_option maxHeartbeats 8000000 in
set_option maxRecDepth 100000 in
theorem law_fresh (a : Option Addr) (n cap : Nat) (ws : List Int) (ao : Option Addr) (no co : Nat) (os : List O) (w : World) (hs : Src w a n cap ws) (ho : OpsAt w ao no os) (hr : (os.length + os.length / 4 + 192) * 56 ≤ 281474976710656) :
    Calls Try.prog 3 #[.slice a n cap, .slice ao no co] w fun e w' => e = .returned (.bool true) ∧ Below w.heap.size w w' := by
  have hno : os.length ≤ 5026338869641 := by omega
  replace hr := Mr.hid hr
  by_cases hbig : 8192 < n
  · have hd : decide (8192 < (n : Int)) = true := by simp; omega
    go_enter Try.func3, Try.ntmps3
    go_wp2_with (go_at_call 7; refine (awake_any _).mono ?_; rintro e w1 ⟨rfl, hB1⟩)
    go_ret
    exact ⟨rfl, hB1⟩
  have hd : decide (8192 < (n : Int)) = false := by simp; omega
  obtain ⟨i0, hi0, hz0, hz1, hz2⟩ := info_parts info_u64
  obtain ⟨hnl, ho'⟩ := id ho
  subst hnl
  have hwn := hs.1
  subst hwn
  go_enter Try.func3, Try.ntmps3
  go_upto_region 3 with fail
  go_cut [5] (fun s wx => Has wx (fun k => w.heap.size ≤ k) 25 1 s (ws.length + 1) (wrd (ws ++ [77])) ∧ Below w.heap.size w wx)
  case first =>
    rcases hs.2 with ⟨rfl, hw0, rfl⟩ | ⟨ad, rfl, hc3⟩
    · have hw0 : ws = [] := List.eq_nil_of_length_eq_zero hw0
      subst hw0
      clear ho ho' hs hd hbig
      have law0 : ∀ o, Has ((w.alloc (.cells #[] 25)).alloc o) (fun k => w.heap.size ≤ k) 25 1 (.slice (some ⟨w.heap.size, 0, none⟩) 0 0) 0 [] := fun o => (Has.owns (World.ownsRow_made w #[] 0 (Nat.le_refl _) (by decide) (by simp)) (fun _ h => h)).alloc o
      go_wp2_with (at_builtin; refine wpList_append_has _ rfl (.tmp 29) (.tmp 30) 22 rfl (fun k => w.heap.size ≤ k) 25 i0 _ 1 8 Try.underlying22 hi0 hz0 hz1 hz2 rfl (.slice (some ⟨w.heap.size, 0, none⟩) 0 0) 0 [] rfl (law0 _) ⟨w.heap.size + 1, 0, none⟩ 1 1 [.int .u64 77] rfl rfl (newsAt (w.alloc (.cells #[] 25)) _ #[.int .u64 77] 25 _ (by simp) rfl) (by simp [Value.oneCell']) (by omega) (by decide) (by decide) (by simp; omega) ?_; intro g c w5 hown hgrow hat)
      go_meet
      case rel => exact ⟨hown, (((Below.refl _ w).alloc (Nat.le_refl _) _).alloc (by simp) _).grown hgrow (by simp; omega) (fun k hk => by simp [Value.ownBlock] at hk; omega)⟩
    · replace hc3 := Mr.hid hc3
      clear ho ho' hs
      go_wp2_with (first | (at_builtin; refine wpList_append_own _ rfl (.tmp 27) (.tmp 28) 22 rfl w.heap.size 25 i0 (.int .u64 0) 1 8 Try.underlying22 hi0 hz0 hz1 hz2 rfl (by decide) (.slice (some ⟨w.heap.size, 0, none⟩) 0 0) 0 [] rfl (World.ownsRow_made w #[] 0 (Nat.le_refl _) (by decide) (by simp)) ad ws.length cap (wrd ws) rfl (by rw [wrd_length]; simp) (fun j u hu => (((Below.refl w.heap.size w).alloc (Nat.le_refl _) _).cell (p := ad.add j) (World.block_lt_of_cell? w _ (hc3.out j u hu))).trans (hc3.out j u hu)) (wrd_one ws) (by unfold maxLen; omega) (by omega) (by simp) ?_; intro v' w5 hown hgrow hnil; rw [Nat.zero_add, List.nil_append] at hown; have hB5 := ((Below.refl w.heap.size w).alloc (Nat.le_refl _) _).grown hgrow (by simp) (fun k hk => by simp [Value.ownBlock] at hk; omega); have h5 : Has w5 (fun k => w.heap.size ≤ k) 25 1 v' ws.length (wrd ws) := Has.owns hown (fun _ h => h); have law5 := fun o => h5.alloc o; have s5 := hB5.size; obtain ⟨a5, c5, rfl, _⟩ := h5.form; replace h5 := Mr.hid h5; clear hown hgrow hnil) | (at_builtin; refine wpList_append_has _ rfl (.tmp 29) (.tmp 30) 22 rfl (fun k => w.heap.size ≤ k) 25 i0 _ 1 8 Try.underlying22 hi0 hz0 hz1 hz2 rfl (.slice a5 ws.length c5) ws.length (wrd ws) rfl (law5 _) ⟨w5.heap.size, 0, none⟩ 1 1 [.int .u64 77] rfl rfl (newsAt w5 _ #[.int .u64 77] 25 _ rfl rfl) (by simp [Value.oneCell']) (by omega) (by unfold maxLen; omega) (by omega) (by simp; omega) ?_; intro g c w6 hown hgrow hat))
      go_meet
      case rel => exact ⟨by rw [wrd_snoc]; exact hown, (hB5.alloc s5 _).grown hgrow (by simp; omega) (fun k hk => (h5.out.lt k hk).1)⟩
  case rest =>
    obtain ⟨hg, hBg⟩ := hcut
    obtain ⟨g5, c5, rfl, hg5, hgl, hgc, _⟩ := hg.there (by omega)
    have C := made_any _ _ _ _ _ (src_prefix hg) (by omega)
    have hle : ws.length ≤ c5 := by omega
    replace hg := Mr.hid hg
    go_wp2_with (go_at_call 8; refine C.mono ?_; clear C; rintro e w2 ⟨b, rfl, hM, hB2⟩)
    have hN1 : ∃ N1, N1 = wc.heap.size := ⟨_, rfl⟩
    obtain ⟨N1, hN1⟩ := hN1
    rw [← hN1] at hM hB2 hgl
    have s2 := hB2.size
    have hg2 : Has w2 (fun k => w.heap.size ≤ k) 25 1 (.slice (some ⟨g5, 0, none⟩) (ws.length + 1) c5) (ws.length + 1) (wrd (ws ++ [77])) := hg.out.kept (fun k hk => hB2.block k (by rw [hN1]; exact (hg.out.lt k hk).2)) (fun k hk => (hg.out.lt k hk).1)
    have hBw : Below w.heap.size w w2 := hBg.trans (hB2.mono (by rw [hN1]; exact hBg.size))
    clear hg
    go_loopg [7] ws.length (fun k s wr => ∃ i : Nat, s = .int .i64 (i : Int) ∧ i + k = ws.length ∧ Has wr (fun k => w.heap.size ≤ k) 25 1 (.slice (some ⟨g5, 0, none⟩) (ws.length + 1) c5) (ws.length + 1) (wrd (inc i ws ++ [77])) ∧ MemS wr (fun k => N1 ≤ k) b ⟨ws, [], []⟩ 0 ∧ Below w.heap.size w wr ∧ N1 ≤ wr.heap.size)
    case atStart => exact ⟨0, rfl, by omega, by rw [inc_zero]; exact hg2, hM, hBw, by omega⟩
    case round =>
      obtain ⟨i, rfl, hi, hgi, hMi, Bi, hNi⟩ := hrel
      clear hg2 hM hBw
      by_cases hlt : i < ws.length
      · have hil : i < (inc i ws ++ [77]).length := by simp [inc_length]; omega
        have cg := hgi.cells (g := g5) rfl i _ (wrd_get _ i hil)
        have fg := hgi.frozen (g := g5) rfl i
        have ev : (inc i ws ++ [77])[i]?.getD 0 = ws[i]?.getD 0 := by
          rw [List.getElem?_append_left (by rw [inc_length]; exact hlt), inc_get i ws i hlt, if_neg (by omega)]
        rw [ev] at cg
        have nx := inc_succ i ws hlt [77]
        have st := has_store hgi i (.int .u64 (up (ws[i]?.getD 0)))
        rw [← wrd_set, nx] at st
        have hMi' := hMi.fr (Fr.setCell (S := fun k => k = g5) (Fr.refl wr _) ⟨g5, i, none⟩ (.int .u64 (up (ws[i]?.getD 0))) (.inl rfl)) (fun k hk _ => by omega)
        have Bi' := Bi.setCell (p := ⟨g5, i, none⟩) hg5 (.int .u64 (up (ws[i]?.getD 0)))
        simp only [up] at st hMi' Bi'
        clear hgi hMi nx ev
        generalize ws[i]?.getD 0 = y at *
        replace st := Mr.hid st
        replace hMi' := Mr.hid hMi'
        replace Bi' := Mr.hid Bi'
        go_wp2
        go_roundg (gk - 1)
        case measure => omega
        case rel => exact ⟨i + 1, by simp, by omega, st.out, hMi'.out, Bi'.out, by simpa using hNi⟩
      · obtain rfl : i = ws.length := by omega
        have e5 : inc ws.length ws = ws.map up := by simp [inc]
        rw [e5] at hgi
        clear hi hlt e5
        go_wp2
        generalize hW1 : wr = W1 at *
        clear hW1
        go_loopg [8] os.length (fun k s wr => ∃ i : Nat, s = .int .i64 (i : Int) ∧ i + k = os.length ∧ MemS wr (fun k => N1 ≤ k) b (runs ws (os.take i)) 0 ∧ Below N1 W1 wr)
        case atStart => exact ⟨0, rfl, by omega, hMi, Below.refl _ _⟩
        case round =>
          obtain ⟨i, rfl, hi, hMj, Bj⟩ := hrel
          have hNj := Bj.size
          have Bw : Below w.heap.size w wr := Bi.trans (Bj.mono (by have := hBg.size; omega))
          by_cases hlt : i < os.length
          · have D := access_run hlt hr hMj (by omega)
            rcases (ho.below Bw).2 with h0 | ⟨bo, oo, rfl, hbo, hc⟩
            · rw [h0] at hlt; simp at hlt
            obtain ⟨c0, c1, c2, c3, c4, c5⟩ := hc i hlt
            clear hc ho'
            generalize os[i]?.getD noO = o at *
            replace hMj := Mr.hid hMj
            go_wp2_with (go_at_call 9; refine D.mono ?_; clear D; rintro e w3 ⟨rfl, hM3, hB3⟩)
            go_roundg (gk - 1)
            case measure => omega
            case rel => exact ⟨i + 1, by simp, by omega, hM3, Bj.trans hB3⟩
          · obtain rfl : i = os.length := by omega
            rw [List.take_length] at hMj
            have hgj : Has wr (fun k => w.heap.size ≤ k) 25 1 (.slice (some ⟨g5, 0, none⟩) (ws.length + 1) c5) (ws.length + 1) (wrd (ws.map up ++ [77])) := hgi.kept (fun k hk => Bj.block k (by simp [Value.ownBlock] at hk; omega)) (fun k hk => (hgi.lt k hk).1)
            clear hi hlt hgi hMi
            have hwc := fun i hi => src_at (hs.below Bw) i hi
            replace hMj := Mr.hid hMj
            go_wp2
            go_loopg [9] ws.length (fun k s wy => ∃ i : Nat, s = .int .i64 (i : Int) ∧ i + k = ws.length ∧ ∃ m, wy = wr.drewN m)
            case atStart => exact ⟨0, rfl, by omega, 0, rfl⟩
            case round =>
              obtain ⟨i, rfl, hi, m, rfl⟩ := hrel
              by_cases hlt : i < ws.length
              · obtain ⟨bw, ow, rfl, hbw, cw⟩ := hwc i hlt
                have cg := hgj.cells (g := g5) rfl i _ (wrd_get _ i (by simp; omega))
                have ev : (ws.map up ++ [77])[i]?.getD 0 = up (ws[i]?.getD 0) := by
                  rw [List.getElem?_append_left (by simpa using hlt)]
                  simp [hlt]
                rw [ev] at cg
                simp only [up] at cg
                clear hwc ev
                generalize ws[i]?.getD 0 = y at *
                replace hgj := Mr.hid hgj
                go_wp2
                go_region
                all_goals go_wp2
                all_goals go_roundg (gk - 1)
                case measure => omega
                case rel => exact ⟨i + 1, by simp, by omega, _, rfl⟩
              · obtain rfl : i = ws.length := by omega
                clear hi hlt hwc
                have hB0 : Below wr.heap.size wr (wr.drewN m) := ⟨rfl, rfl, rfl, Nat.le_refl _, fun _ _ => rfl⟩
                have hg0 := hgj.below hB0
                have hM0 := hMj.out.below hB0
                have Bw0 : Below w.heap.size w (wr.drewN m) := Bw.trans (hB0.mono Bw.size)
                clear hgj hMj Bw hB0 Bj Bi hNj hNi
                generalize wr.drewN m = X0 at *
                have hrep := runs_rep ws os
                have hlgle := runs_lg_le ws os
                generalize runs ws os = s at *
                obtain ⟨sw, lg, ah⟩ := s
                obtain ⟨vw, vl, va, hm⟩ := hM0
                simp only at hm hlgle
                have hlen : sw.length = ws.length := hrep.len
                have hroom : (lg.length + lg.length / 4 + 192) * 56 ≤ 281474976710656 := room_mono hlgle hr.out (Nat.le_refl _)
                have L := logged_any hm hroom 0 ((os.length : Int) + 1)
                have hmin : min (lg.length - (0 : Int).toNat) ((os.length : Int) + 1).toNat = lg.length := by simp; omega
                simp only [hmin] at L
                replace hroom := Mr.hid hroom
                have hok : ∀ j, j < lg.length → 0 ≤ (lg[j]?.getD noAcc).ad ∧ (lg[j]?.getD noAcc).ad < ws.length := fun j hj => ⟨(hrep.ok j hj).1, (hrep.ok j hj).2.1⟩
                have hfin : lg.foldl putA ws = sw := hrep.now.symm
                have hn8 : ws.length ≤ 8192 := by omega
                have hX0 : g5 < X0.heap.size := (hg0.lt g5 rfl).2
                have step : ∀ (w3 : World) (vq : Value), Below X0.heap.size X0 w3 → Has w3 (fun k => X0.heap.size ≤ k) 71 7 vq lg.length (lgc ((ent lg (0 : Int).toNat lg.length).map (·.2))) →
                    Calls Try.prog 11 #[.slice a ws.length cap, vq] w3 fun e w' => ∃ v, e = .returned (.tuple #[v, .bool true]) ∧ Has w' (fun k => w3.heap.size ≤ k) 25 1 v sw.length (wrd sw) ∧ Below w3.heap.size w3 w' := fun w3 vq hB hq => by
                  simp only [Int.toNat_zero, ent_all] at hq
                  have := behind_any (hs.below (Bw0.trans (hB.mono Bw0.size))) hq (by omega) (by omega) hok
                  rw [hfin] at this
                  rw [hlen]
                  exact this
                have c77 : ∀ w4 : World, Below X0.heap.size X0 w4 → w4.cell? ⟨g5, ws.length, none⟩ = some (.int .u64 77) := fun w4 hB => by
                  rw [hB.cell (p := ⟨g5, ws.length, none⟩) hX0]
                  have := hg0.cells (g := g5) rfl ws.length _ (wrd_get _ ws.length (by simp))
                  simpa using this
                have hms : sw.length ≤ 1000000 := by omega
                clear hrep hok hmin ho ho'
                replace hfin := Mr.hid hfin
                replace hlen := Mr.hid hlen
                replace hm := Mr.hid hm
                go_wp2_with (first | (go_at_call 10; refine L.mono ?_; clear L; rintro e w3 ⟨vn, vq, k, rfl, rfl, hvn, hvq, hB3⟩; obtain ⟨an, cn, rfl, _⟩ := hvn.form; obtain ⟨aq, cq, rfl, _⟩ := hvq.form; have Z3 := step w3 _ hB3 hvq; clear step hvn hvq) | (go_at_call 11; refine Z3.mono ?_; clear Z3; rintro e w4 ⟨vt, rfl, hvt, hB4⟩; have s3 := hB3.size; have hB04 := hB3.trans (hB4.mono s3); have c4 := c77 w4 hB04; clear c77; obtain ⟨at_, ct, rfl, _⟩ := hvt.form; have X4 := words_any (hm.out.below hB04)) | (go_at_call 12; refine X4.mono ?_; clear X4; rintro e w5 ⟨v5, rfl, hv5, hB5⟩; have s4 := hB04.size; have hB05 := hB04.trans (hB5.mono s4); obtain ⟨a5, c5', rfl, _⟩ := hv5.form; have X5 := words_any (hm.out.below hB05)) | (go_at_call 12; refine X5.mono ?_; clear X5; rintro e w6 ⟨v6, rfl, hv6, hB6⟩; obtain ⟨a6, c6, rfl, _⟩ := hv6.form; have s5 := hB5.size; have hvt6 := (hvt.below hB5).below hB6; have hv56 := hv5.below hB6; have Y6 := sameWords_same hv56 hvt6 hms) | (go_at_call 13; refine Y6.mono ?_; clear Y6; rintro e w7 ⟨rfl, hB7⟩; have Y7 := sameWords_same (hv6.below hB7) (hvt6.below hB7) hms) | (go_at_call 13; refine Y7.mono ?_; clear Y7; rintro e w8 ⟨rfl, hB8⟩))
                have s6 := hB6.size
                have s7 := hB7.size
                have s8 := hB8.size
                have B68 : Below w6.heap.size w6 w8 := hB7.trans (hB8.mono s7)
                have B58 : Below w5.heap.size w5 w8 := hB6.trans (B68.mono s6)
                have B48 : Below w4.heap.size w4 w8 := hB5.trans (B58.mono s5)
                have hA : Has w8 (fun k => w4.heap.size ≤ k ∧ k < w5.heap.size) 25 1 (.slice a5 sw.length c5') sw.length (wrd sw) := Has.below (hv5.kept (fun _ _ => rfl) (fun k hk => hv5.lt k hk)) B58
                have hBb : Has w8 (fun k => w5.heap.size ≤ k ∧ k < w6.heap.size) 25 1 (.slice a6 sw.length c6) sw.length (wrd sw) := Has.below (hv6.kept (fun _ _ => rfl) (fun k hk => hv6.lt k hk)) B68
                have hT : Has w8 (fun k => w3.heap.size ≤ k ∧ k < w4.heap.size) 25 1 (.slice at_ sw.length ct) sw.length (wrd sw) := Has.below (hvt.kept (fun _ _ => rfl) (fun k hk => hvt.lt k hk)) B48
                have B08 : Below X0.heap.size X0 w8 := hB04.trans (B48.mono s4)
                have hm8 := (hm.out.narrow.mono (T := fun k => k < X0.heap.size) (fun _ h => h.2)).below B08
                have Bw8 : Below w.heap.size w w8 := Bw0.trans (B08.mono Bw0.size)
                have s48 := B48.size
                have s04 := hB04.size
                clear hv5 hv6 hvt hv56 hvt6 hm hB3 hB4 hB5 hB6 hB7 hB8 B68 B58 hB04 hB05 c4 hg0 B08 B48
                have rA : ∀ k, k ≤ sw.length → Are w8 (.slice a5 sw.length c5') 0 1000 := fun _ _ g hg => ⟨(hA.lt g hg).2, fun i hi => by omega⟩
                generalize hsl : sw.length = N at *
                go_loopg [17] N (fun k s wy => ∃ i : Nat, s = .int .i64 (i : Int) ∧ i + k = N ∧ Has wy (fun k => w4.heap.size ≤ k ∧ k < w5.heap.size) 25 1 (.slice a5 N c5') N (wrd (fill 1000 i sw)) ∧ Has wy (fun k => w5.heap.size ≤ k ∧ k < w6.heap.size) 25 1 (.slice a6 N c6) N (wrd (fill 2000 i sw)) ∧ Below w4.heap.size w8 wy)
                case atStart => exact ⟨0, rfl, by omega, hA, hBb, Below.refl _ _⟩
                case round =>
                  obtain ⟨i, rfl, hi, hAi, hBi, B9⟩ := hrel
                  clear hA hBb rA
                  by_cases hlt : i < N
                  · obtain ⟨ga, ca, hga, hSa, hal, _⟩ := hAi.there (by omega)
                    obtain ⟨gb, cb, hgb, hSb, hbl, _⟩ := hBi.there (by omega)
                    cases hga
                    cases hgb
                    have ka := hAi.cells (g := ga) rfl i _ (wrd_get _ i (by rw [fill_length _ _ _ (by omega)]; omega))
                    have fa := hAi.frozen (g := ga) rfl i
                    have kb := hBi.cells (g := gb) rfl i _ (wrd_get _ i (by rw [fill_length _ _ _ (by omega)]; omega))
                    have fb := hBi.frozen (g := gb) rfl i
                    have nab : ga ≠ gb := by omega
                    have sa := (has_store hAi i (.int .u64 1000)).setCell ⟨gb, i, none⟩ (.int .u64 2000) (by simp [Value.ownBlock]; omega)
                    have sb := has_store (hBi.setCell ⟨ga, i, none⟩ (.int .u64 1000) (by simp [Value.ownBlock]; omega)) i (.int .u64 2000)
                    rw [← wrd_set, fill_succ _ _ _ (by omega)] at sa sb
                    have B9' := (B9.setCell (p := ⟨ga, i, none⟩) hSa.1 (.int .u64 1000)).setCell (p := ⟨gb, i, none⟩) (show w4.heap.size ≤ gb by omega) (.int .u64 2000)
                    generalize (fill 1000 i sw)[i]?.getD 0 = ya at *
                    generalize (fill 2000 i sw)[i]?.getD 0 = yb at *
                    replace sa := Mr.hid sa
                    replace sb := Mr.hid sb
                    replace B9' := Mr.hid B9'
                    clear hAi hBi hT hm8
                    go_wp2
                    go_roundg (gk - 1)
                    case measure => omega
                    case rel => exact ⟨i + 1, by simp, by omega, sa.out, sb.out, B9'.out⟩
                  · obtain rfl : i = N := by omega
                    have e1 : ∀ c, fill c i sw = List.replicate i c := fun c => by simp [fill, hsl]
                    rw [e1] at hAi hBi
                    clear hi hlt e1
                    replace hsl := Mr.hid hsl
                    have RA : Are wr (.slice a5 i c5') i 1000 := fun g hg => ⟨(hAi.lt g hg).2, fun j hj => hAi.cells hg j _ (by simp [wrd, hj])⟩
                    have RB : Are wr (.slice a6 i c6) i 2000 := fun g hg => ⟨(hBi.lt g hg).2, fun j hj => hBi.cells hg j _ (by simp [wrd, hj])⟩
                    have s9 := B9.size
                    have hi8 : i ≤ 8192 := by have := hlen.out; omega
                    go_wp2
                    go_loopg [18, 19, 20] 40 (fun k s18 s19 s wy => ∃ (j : Nat) (vx vy : Value), s18 = vx ∧ s19 = vy ∧ s = .int .i64 (j : Int) ∧ j + k = 40 ∧ Has wy (fun k => (w4.heap.size ≤ k ∧ k < w5.heap.size) ∨ w6.heap.size ≤ k) 25 1 vx (i + j) (wrd (List.replicate i 1000 ++ List.replicate j 3000)) ∧ Has wy (fun k => (w5.heap.size ≤ k ∧ k < w6.heap.size) ∨ w6.heap.size ≤ k) 25 1 vy (i + j) (wrd (List.replicate i 2000 ++ List.replicate j 4000)) ∧ (∀ g, vx.ownBlock = some g → vy.ownBlock ≠ some g) ∧ Are wy (.slice a5 i c5') i 1000 ∧ Are wy (.slice a6 i c6) i 2000 ∧ Below w4.heap.size w8 wy)
                    case atStart => exact ⟨0, _, _, rfl, rfl, rfl, by omega, by simpa using hAi.mono (fun k hk => .inl hk), by simpa using hBi.mono (fun k hk => .inl hk), fun g h1 h2 => by have := (hAi.lt g h1).1; have := (hBi.lt g h2).1; omega, RA, RB, B9⟩
                    case round =>
                      obtain ⟨j, vx, vy, rfl, rfl, rfl, hj, hx, hy, hd', RAj, RBj, Bj⟩ := hrel
                      have sj := Bj.size
                      have dA : ∀ g, (Value.slice a5 i c5').ownBlock = some g → w4.heap.size ≤ g ∧ g < w5.heap.size := fun g hg => (hAi.lt g hg).1
                      have dB : ∀ g, (Value.slice a6 i c6).ownBlock = some g → w5.heap.size ≤ g ∧ g < w6.heap.size := fun g hg => (hBi.lt g hg).1
                      by_cases hlt : j < 40
                      · have hdl : decide ((j : Int) < 40) = true := by simp; omega
                        obtain ⟨ax, cx, hvx, _⟩ := hx.form
                        obtain ⟨ay, cy, hvy, _⟩ := hy.form
                        subst hvx
                        subst hvy
                        have lx := fun o => hx.alloc o
                        have hxB : ∀ g, (Value.slice a6 i c6).ownBlock = some g → (Value.slice ax (i + j) cx).ownBlock ≠ some g := fun g hg e => by have := dB g hg; have := (hx.lt g e).1; omega
                        have hyA : ∀ g, (Value.slice a5 i c5').ownBlock = some g → (Value.slice ay (i + j) cy).ownBlock ≠ some g := fun g hg e => by have := dA g hg; have := (hy.lt g e).1; omega
                        have stx := fun {o : Obj} {w10 : World} {g c : Nat} h1 h2 h3 => xstep (W' := w10) (o := o) (g := g) (cap := c) (u := .int .u64 3000) hx hy hd' RAj RBj (fun k hk => rep_get i j 1000 3000 k hk) hxB h1 h2 h3 w4.heap.size (by omega) (fun k hk => by omega)
                        clear hAi hBi RA RB hT hm8 B9 hx hd' RAj RBj
                        go_wp2_with (first | (at_builtin; refine wpList_append_one _ rfl (.tmp 142) (.tmp 143) 22 rfl (fun k => (w4.heap.size ≤ k ∧ k < w5.heap.size) ∨ w6.heap.size ≤ k) 25 i0 _ Try.underlying22 hi0 hz0 hz1 hz2 rfl (.slice ax (i + j) cx) (i + j) (wrd (List.replicate i 1000 ++ List.replicate j 3000)) rfl (lx _) ⟨wr.heap.size, 0, none⟩ 1 (.int .u64 3000) rfl (newsAt wr _ #[.int .u64 3000] 25 _ rfl rfl) rfl (by omega) (.inr (by simp; omega)) ?_; intro gx cx' w10 hown hgrow hat; obtain ⟨hy1, hd1, RA1, RB1, Bx1⟩ := stx hown hgrow hat; have s10 := Bx1.size; have ly := fun o => hy1.alloc o; have sty := fun {o : Obj} {w11 : World} {g c : Nat} h1 h2 h3 => xstep (W' := w11) (o := o) (g := g) (cap := c) (u := .int .u64 4000) hy1 hown (fun g h1 h2 => hd1 g h2 h1) RB1 RA1 (fun k hk => rep_get i j 2000 4000 k hk) hyA h1 h2 h3 w4.heap.size (by omega) (fun k hk => by omega); clear stx lx hgrow hat) | (at_builtin; refine wpList_append_one _ rfl (.tmp 145) (.tmp 146) 22 rfl (fun k => (w5.heap.size ≤ k ∧ k < w6.heap.size) ∨ w6.heap.size ≤ k) 25 i0 _ Try.underlying22 hi0 hz0 hz1 hz2 rfl (.slice ay (i + j) cy) (i + j) (wrd (List.replicate i 2000 ++ List.replicate j 4000)) rfl (ly _) ⟨w10.heap.size, 0, none⟩ 1 (.int .u64 4000) rfl (newsAt w10 _ #[.int .u64 4000] 25 _ rfl rfl) rfl (by omega) (.inr (by simp; omega)) ?_; intro gy cy' w11 hown2 hgrow2 hat2; obtain ⟨hx2, hd2, RB2, RA2, Bx2⟩ := sty hown2 hgrow2 hat2; clear sty ly hgrow2 hat2))
                        go_roundg (gk - 1)
                        case measure => omega
                        case rel =>
                          refine ⟨j + 1, _, _, rfl, rfl, by simp, by omega, ?_, ?_, fun g h1 h2 => hd2 g h2 h1, RA2, RB2, Bj.trans (Bx1.trans Bx2)⟩
                          · rw [← rep_snoc]; exact hx2
                          · rw [← rep_snoc]; exact hown2
                      · obtain rfl : j = 40 := by omega
                        have fmA : 0 < i → ∃ ga, a5 = some ⟨ga, 0, none⟩ := fun h => by obtain ⟨g, c, e, _⟩ := hAi.there h; cases e; exact ⟨_, rfl⟩
                        have fmB : 0 < i → ∃ gb, a6 = some ⟨gb, 0, none⟩ := fun h => by obtain ⟨g, c, e, _⟩ := hBi.there h; cases e; exact ⟨_, rfl⟩
                        obtain ⟨gx, cx, hvx, _⟩ := hx.there (by omega)
                        obtain ⟨gy, cy, hvy, _⟩ := hy.there (by omega)
                        subst hvx
                        subst hvy
                        have hTj : Has wr (fun k => w3.heap.size ≤ k ∧ k < w4.heap.size) 25 1 (.slice at_ i ct) i (wrd sw) := hT.kept (fun k hk => Bj.block k (hT.lt k hk).1.2) (fun k hk => (hT.lt k hk).1)
                        have hmj := hm8.kept (W' := wr) (fun k hs _ => Bj.block k (by omega))
                        have X9 := words_any hmj
                        have cx0 := fun k hk => hx.cells (g := gx) rfl k _ (rep_get i 40 1000 3000 k hk)
                        have cy0 := fun k hk => hy.cells (g := gy) rfl k _ (rep_get i 40 2000 4000 k hk)
                        have cx1 := fun k hk hk2 => hx.cells (g := gx) rfl k _ (rep_get2 i 40 1000 3000 k hk hk2)
                        have cy1 := fun k hk hk2 => hy.cells (g := gy) rfl k _ (rep_get2 i 40 2000 4000 k hk hk2)
                        clear hj hlt hAi hBi RA RB B9 hT hm8 hx hy hmj hd' dA dB
                        go_wp2
                        go_loopg [21] i (fun k s wy => ∃ q : Nat, s = .int .i64 (q : Int) ∧ q + k = i ∧ wy = wr)
                        case atStart => exact ⟨0, rfl, by omega, rfl⟩
                        case round =>
                          obtain ⟨q, rfl, hq, hwy⟩ := hrel
                          subst hwy
                          by_cases hlt : q < i
                          · obtain ⟨ga, rfl⟩ := fmA (by omega)
                            obtain ⟨gb, rfl⟩ := fmB (by omega)
                            have k1 := (RAj ga rfl).2 q hlt
                            have k2 := (RBj gb rfl).2 q hlt
                            have k3 := cx0 q hlt
                            have k4 := cy0 q hlt
                            have l1 : q < i + 40 := by omega
                            clear cx0 cy0 cx1 cy1 X9 hTj RAj RBj fmA fmB
                            go_wp2
                            go_roundg (gk - 1)
                            case measure => omega
                            case rel => exact ⟨q + 1, by simp, by omega, rfl⟩
                          · obtain rfl : q = i := by omega
                            clear hq hlt fmA fmB RAj RBj cx0 cy0
                            go_wp2
                            go_loopg [22] 40 (fun k s wz => ∃ r : Nat, s = .int .i64 (r : Int) ∧ q ≤ r ∧ r + k = q + 40 ∧ wz = wr)
                            case atStart => exact ⟨q, rfl, by omega, rfl, rfl⟩
                            case round =>
                              obtain ⟨r, rfl, hr1, hr2, hwz⟩ := hrel
                              subst hwz
                              by_cases hlt : r < q + 40
                              · have k3 := cx1 r hr1 hlt
                                have k4 := cy1 r hr1 hlt
                                have l1 : (r : Int) < (q : Int) + 40 := by omega
                                clear cx1 cy1 X9 hTj
                                go_wp2
                                go_roundg (gk - 1)
                                case measure => omega
                                case rel => exact ⟨r + 1, by simp, by omega, by omega, rfl⟩
                              · obtain rfl : r = q + 40 := by omega
                                have hsq := hsl.out
                                have Y9 := fun (w9 : World) (v9 : Value) (h9 : Below wr.heap.size wr w9) (hv : Has w9 (fun k => wr.heap.size ≤ k) 25 1 v9 sw.length (wrd sw)) => sameWords_same hv (by have := hTj.below h9; rw [hsq]; exact this) (by rw [hsq]; omega)
                                clear cx1 cy1 hr1 hr2 hlt hTj hsq
                                go_wp2_with (first | (go_at_call 12; refine X9.mono ?_; clear X9; rintro e w9 ⟨v9, rfl, hv9, hB9⟩; have Y := Y9 w9 v9 hB9 hv9; clear Y9; obtain ⟨a9, c9, rfl, _⟩ := hv9.form) | (go_at_call 13; refine Y.mono ?_; clear Y; rintro e w10 ⟨rfl, hB10⟩))
                                go_ret
                                have t9 := hB9.size
                                exact ⟨rfl, ((Bw8.trans (Bj.mono (by have := Bw0.size; omega))).trans (hB9.mono (by have := Bw0.size; omega))).trans (hB10.mono (by have := Bw0.size; omega))⟩
end Go.Proofs.Ythbhkkfjfcfhnab.Me
