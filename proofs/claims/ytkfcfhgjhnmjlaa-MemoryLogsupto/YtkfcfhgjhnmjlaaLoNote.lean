/-
  note and write, with what stays of an elder log.
-/
import Derived.Test.YtkfcfhgjhnmjlaaMemAcc
namespace Go.Proofs.Ytkfcfhgjhnmjlaa.Me
open Go.RowKit Mr
set_option linter.unusedVariables false
/-- The first n elements of v's block stand as they stood. -/
def Kept (w w' : World) (v : Value) (n size : Nat) (e : TypeId) : Prop :=
  ∀ k cur, v.ownBlock = some k → w.heap[k]? = some (.cells cur e (0, 0)) → ∃ cur' : Array Value, w'.heap[k]? = some (.cells cur' e (0, 0)) ∧ cur'.size = cur.size ∧ cur'.toList.take (n * size) = cur.toList.take (n * size)
section
variable {P : Program} (w : World)
theorem Kept.below {w w' : World} (hB : Below w.heap.size w w') (v : Value) (n size : Nat) (e : TypeId) : Kept w w' v n size e := fun k cur _ hk => ⟨cur, (hB.block k (Array.getElem?_eq_some_iff.1 hk).1).trans hk, rfl, rfl⟩
theorem has_old {w w' : World} {S : Nat → Prop} {e : TypeId} {size n m : Nat} {v u : Value} {xs : List Value} (h : Has w S e size v n xs) (hg : w.grownBy w' u.ownBlock) (hk : Kept w w' u m size e) (hn : n ≤ m) : Has w' S e size v n xs := by
  by_cases hb : v.ownBlock = u.ownBlock
  · rcases h.2 with ⟨rfl, rfl⟩ | ⟨g, cap, cur, rfl, hS, hgg, hnc, hcm, hcs, ht⟩
    · exact ⟨h.1, .inl ⟨rfl, rfl⟩⟩
    · obtain ⟨cur', h1, h2, h3⟩ := hk g cur hb.symm hgg
      refine ⟨h.1, .inr ⟨g, cap, cur', rfl, hS, h1, hnc, hcm, by rw [h2]; exact hcs, ?_⟩⟩
      have hle : n * size ≤ m * size := Nat.mul_le_mul_right _ hn
      have e1 : cur'.toList.take (n * size) = (cur'.toList.take (m * size)).take (n * size) := by rw [List.take_take, Nat.min_eq_left hle]
      have e2 : cur.toList.take (n * size) = (cur.toList.take (m * size)).take (n * size) := by rw [List.take_take, Nat.min_eq_left hle]
      rw [e1, h3, ← e2, ht]
  · exact h.grown hg (fun k hk' e' => hb (by rw [hk', e']))
theorem run_append_keep2 (S : Nat → Prop) (t ty e : TypeId) (i : TypeInfo) (z : Value) (size bytes : Nat) (ht : P.underlying t = some (.slice e)) (hi : P.info? e = some i) (hz : i.zero = some z)
    (hsize : i.size = size) (hby : i.bytes = bytes) (hzs : z.cells.size = size)
    (v : Value) (n : Nat) (xs : List Value) (hown : Has w S e size v n xs)
    (a : Addr) (m c : Nat) (news : List Value) (hl : news.length = m * size) (hnews : ∀ j u, news[j]? = some u → w.cell? (a.add j) = some u) (h1 : ∀ u ∈ news, u.oneCell' = true)
    (hm : 0 < m) (h63 : n + m ≤ maxLen) (hbytes : ((n + m) + (n + m) / 4 + 192) * bytes ≤ 281474976710656) (hS : S w.heap.size) :
    ∃ g cap w', (Builtin.append_ #[t, t] ty #[v, .slice (some a) m c]).run P w = .ok (.slice (some ⟨g, 0, none⟩) (n + m) cap) w' ∧ Has w' S e size (.slice (some ⟨g, 0, none⟩) (n + m) cap) (n + m) (xs ++ news) ∧ w.grownBy w' v.ownBlock ∧
      Kept w w' v n size e ∧ ((g = w.heap.size ∧ Below w.heap.size w w') ∨ (v.ownBlock = some g ∧ ∀ a n' cap, v = .slice a n' cap → n + m ≤ cap)) := by
  subst hsize
  subst hby
  have hsmall : n + m ≤ 9223372036854775807 := by simp only [maxLen] at h63; omega
  have hlen : (xs ++ news).length = (n + m) * i.size := by rw [List.length_append, hown.1, hl, Nat.add_mul]
  rcases hown.2 with ⟨rfl, rfl⟩ | ⟨g, cap, cur, rfl, hbg, hg, hnc, hcm, hcs, htake⟩
  · have hx : xs = [] := List.eq_nil_of_length_eq_zero (by simpa using hown.1)
    subst hx
    have hr := run_append_nil (P := P) w t ty e i z ht hi hz a m c news hl hnews (by omega) (by omega) (by
      refine Nat.le_trans (Nat.mul_le_mul_right _ ?_) hbytes; omega)
    have hgr := grown_has w e i.size z hzs (0 + m) 0 h63 S hS ([] ++ news) hlen #[] news.toArray (by simp) (Value.ownBlock (.slice none 0 0))
    simp only [Nat.zero_add, List.nil_append, Array.empty_append] at hgr ⊢
    exact ⟨_, _, _, hr, hgr.1, hgr.2, fun k cur hk => by simp [Value.ownBlock] at hk, .inl ⟨rfl, (Below.refl _ _).drew.alloc (Nat.le_refl _) _⟩⟩
  · by_cases hroom : n + m ≤ cap
    · have hfit : n * i.size + news.length ≤ cur.size := by rw [hl, ← Nat.add_mul]; exact Nat.le_trans (Nat.mul_le_mul_right _ hroom) hcs
      have hr := run_append_room (P := P) w t ty e i ht hi g n cap cur hg a m c news hl hnews h1 hroom hfit
      refine ⟨_, _, _, hr, ⟨hlen, .inr ⟨g, cap, _, rfl, hbg, setRow_heap w g cur _ e _ hg, hroom, hcm, ?_, ?_⟩⟩, ⟨rfl, rfl, rfl, by simp, fun k _ hk => setRow_other w g k _ (fun e => hk (by simp [Value.ownBlock, e]))⟩, fun k cur0 hk hc0 => ?_, .inr ⟨rfl, fun a' n' cap' e' => by cases e'; exact hroom⟩⟩
      · simp only [List.size_toArray, List.length_append, List.length_take, List.length_drop, Array.length_toList]
        omega
      · rw [htake, ← hlen]
        exact List.take_left
      · simp only [Value.ownBlock, Option.some.injEq] at hk
        subst hk
        rw [hg] at hc0
        obtain rfl : cur = cur0 := by simpa using hc0
        refine ⟨_, setRow_heap w g cur _ e _ hg, ?_, ?_⟩
        · simp only [List.size_toArray, List.length_append, List.length_take, List.length_drop, Array.length_toList]
          omega
        · have hle : n * i.size ≤ cur.toList.length := by rw [Array.length_toList]; omega
          simp only [List.append_assoc]
          rw [List.take_append_of_le_length (by rw [List.length_take]; omega), List.take_take, Nat.min_self]
    · have holds : ∀ j u, xs[j]? = some u → w.cell? ((⟨g, 0, none⟩ : Addr).add j) = some u := fun j u hu => by
        have hadd : (⟨g, 0, none⟩ : Addr).add j = ⟨g, j, none⟩ := by unfold Addr.add; split <;> simp_all
        rw [hadd]; exact hown.cells (g := g) rfl j u hu
      have hr := run_append_grow (P := P) w t ty e i z ht hi hz ⟨g, 0, none⟩ n cap xs hown.1 holds a m c news hl hnews (by omega) (by omega) (growslice_fits_wide (by omega) hbytes)
      have hgr := grown_has w e i.size z hzs (n + m) cap h63 S hS (xs ++ news) hlen xs.toArray news.toArray (by simp) (Value.ownBlock (.slice (some ⟨g, 0, none⟩) n cap))
      exact ⟨_, _, _, hr, hgr.1, hgr.2, Kept.below ((Below.refl _ _).drew.alloc (Nat.le_refl _) _) _ _ _ _, .inl ⟨rfl, (Below.refl _ _).drew.alloc (Nat.le_refl _) _⟩⟩
/-- What an append onto v leaves of elder rows. -/
def Papp (w w' : World) (v : Value) (n m g size : Nat) (e : TypeId) : Prop := ∀ (T : Nat → Prop) (v0 : Value) (n0 : Nat) (xs0 : List Value), Has w T e size v0 n0 xs0 → (∀ a n' cap, v = .slice a n' cap → v0.ownBlock = v.ownBlock → n0 ≤ n ∨ cap ≤ n) → Has w' T e size v0 n0 xs0 ∧ (v0.ownBlock = some g → n0 ≤ n + m)
theorem papp_of {w w' : World} {v : Value} {n m g size : Nat} {e : TypeId} (hm : 0 < m) (hf : ∃ a cap, v = .slice a n cap) (hg : w.grownBy w' v.ownBlock) (hk : Kept w w' v n size e) (hc : (g = w.heap.size ∧ Below w.heap.size w w') ∨ (v.ownBlock = some g ∧ ∀ a n' cap, v = .slice a n' cap → n + m ≤ cap)) : Papp w w' v n m g size e := by
  intro T v0 n0 xs0 h0 hs
  obtain ⟨a, cap, rfl⟩ := hf
  rcases hc with ⟨rfl, hB⟩ | ⟨hb, hr⟩
  · exact ⟨h0.below hB, fun e' => by have := (h0.lt _ e').2; omega⟩
  · by_cases hb0 : v0.ownBlock = Value.ownBlock (.slice a n cap)
    · have h1 := hs a n cap rfl hb0
      have h2 := hr a n cap rfl
      have h3 : n0 ≤ n := by omega
      exact ⟨has_old h0 hg hk h3, fun _ => by omega⟩
    · exact ⟨h0.grown hg (fun k hk' e' => hb0 (by rw [hk', e'])), fun e' => absurd (e'.trans hb.symm) hb0⟩
theorem wp_append_past {o : Oper} {a : Act} {K : Act → World → Prop} {Q : Exit → Act → World → Prop} (s x : Operand) (t : TypeId)
    (ho : o.op = .call { callee := .builtin .append, args := #[s, x], argTypes := #[t, t] })
    (S : Nat → Prop) (e : TypeId) (i : TypeInfo) (z : Value) (size bytes : Nat) (ht : P.underlying t = some (.slice e)) (hi : P.info? e = some i) (hz : i.zero = some z)
    (hsize : i.size = size) (hby : i.bytes = bytes) (hzs : z.cells.size = size)
    (v : Value) (n : Nat) (xs : List Value) (hs : a.eval s = v) (hown : Has w S e size v n xs)
    (ad : Addr) (m c : Nat) (news : List Value) (hx : a.eval x = .slice (some ad) m c) (hl : news.length = m * size) (hnews : ∀ j u, news[j]? = some u → w.cell? (ad.add j) = some u) (h1 : ∀ u ∈ news, u.oneCell' = true)
    (hm : 0 < m) (h63 : n + m ≤ maxLen) (hbytes : ((n + m) + (n + m) / 4 + 192) * bytes ≤ 281474976710656) (hS : S w.heap.size)
    (h : ∀ g cap w', Has w' S e size (.slice (some ⟨g, 0, none⟩) (n + m) cap) (n + m) (xs ++ news) → w.grownBy w' v.ownBlock → Papp w w' v n m g size e → K (a.put o.dst (.slice (some ⟨g, 0, none⟩) (n + m) cap)) w') : o.wp P a w K Q := by
  obtain ⟨g, cap, w', hr, h2, h3, h5, h6⟩ := run_append_keep2 (P := P) w S t o.type e i z size bytes ht hi hz hsize hby hzs v n xs hown ad m c news hl hnews h1 hm h63 hbytes hS
  have h4 := papp_of hm (let ⟨a, c, e, _⟩ := hown.form; ⟨a, c, e⟩) h3 h5 h6
  unfold Oper.wp execOp
  simp only [ho, resolve, invoke, builtin, Sem.run_bind, Sem.run_pure, Result.andThen_ok, List.map_toArray, List.map_cons, List.map_nil, hs, hx, hr]
  exact h g cap w' h2 h3 h4
theorem step_append_past {ops : Array Oper} {o : Oper} {a : Act} {K : Act → World → Prop} {Q : Exit → Act → World → Prop} {E : Prop} (hgd : o.guard = none) (s x : Operand) (t : TypeId)
    (ho : o.op = .call { callee := .builtin .append, args := #[s, x], argTypes := #[t, t] })
    (S : Nat → Prop) (e : TypeId) (i : TypeInfo) (z : Value) (size bytes : Nat) (ht : P.underlying t = some (.slice e)) (hi : P.info? e = some i) (hz : i.zero = some z)
    (hsize : i.size = size) (hby : i.bytes = bytes) (hzs : z.cells.size = size)
    (v : Value) (n : Nat) (xs : List Value) (hs : a.eval s = v) (hown : Has w S e size v n xs)
    (ad : Addr) (m c : Nat) (news : List Value) (hx : a.eval x = .slice (some ad) m c) (hl : news.length = m * size) (hnews : ∀ j u, news[j]? = some u → w.cell? (ad.add j) = some u) (h1 : ∀ u ∈ news, u.oneCell' = true)
    (hm : 0 < m) (h63 : n + m ≤ maxLen) (hbytes : ((n + m) + (n + m) / 4 + 192) * bytes ≤ 281474976710656) (hS : S w.heap.size)
    (h : ∀ g cap w', Has w' S e size (.slice (some ⟨g, 0, none⟩) (n + m) cap) (n + m) (xs ++ news) → w.grownBy w' v.ownBlock → Papp w w' v n m g size e → K (a.put o.dst (.slice (some ⟨g, 0, none⟩) (n + m) cap)) w') :
    if Region.wanted o (yielded ops a.tmps) = true then Oper.wp P o a w K Q else E := by
  have hw : Region.wanted o (yielded ops a.tmps) = true := by simp [Region.wanted, hgd]
  rw [if_pos hw]
  exact wp_append_past w s x t ho S e i z size bytes ht hi hz hsize hby hzs v n xs hs hown ad m c news hx hl hnews h1 hm h63 hbytes hS h
end
/-- An elder row of accesses, beside a log v that is written on. -/
def Past (w : World) (v v0 : Value) (n0 : Nat) (xs0 : List Value) : Prop :=
  Has w (fun _ => True) 41 7 v0 n0 xs0 ∧ ∀ a n cap, v = .slice a n cap → v0.ownBlock = v.ownBlock → n0 ≤ n ∨ cap ≤ n
theorem Past.below {w w' : World} {v v0 : Value} {n0 : Nat} {xs0 : List Value} (h : Past w v v0 n0 xs0) (hB : Below w.heap.size w w') : Past w' v v0 n0 xs0 := ⟨h.1.below hB, h.2⟩
theorem past_ne {w w1 : World} {v0 : Value} {n0 : Nat} {xs0 : List Value} {T : Nat → Prop} (h : Has w T 41 7 v0 n0 xs0) {k : Nat} {cs : Array Value} {t : TypeId} {fz : Nat × Nat} (hk : w.heap[k]? = some (.cells cs t fz)) (ht : t ≠ 41) : v0.ownBlock ≠ some k := fun e => by
  rcases h.2 with ⟨rfl, _⟩ | ⟨g, _, cur, rfl, _, hg, _⟩
  · simp [Value.ownBlock] at e
  · simp [Value.ownBlock] at e; subst e; rw [hk] at hg; simp at hg; exact ht hg.2.1
/-- What is written on beside the logs leaves an elder row. -/
theorem Past.fr {w w' : World} {v v0 : Value} {n0 : Nat} {xs0 : List Value} {T : Nat → Prop} (h : Past w v v0 n0 xs0) (hf : Fr w w' T) (hT : ∀ k, T k → k < w.heap.size → ∃ cs t fz, w.heap[k]? = some (.cells cs t fz) ∧ t ≠ 41) : Past w' v v0 n0 xs0 :=
  ⟨h.1.kept (fun k hk => hf.block k (h.1.lt k hk).2 (fun hTk => by
    obtain ⟨cs, t, fz, h1, h2⟩ := hT k hTk (h.1.lt k hk).2
    exact past_ne (w1 := w) h.1 h1 h2 hk)) (fun _ _ => trivial), h.2⟩
section
variable {W : World} {S : Nat → Prop} {b : Nat} {vw vl va : Value} {ws : List Int} {mv : Int} {lg : List Acc} {ah : List Int} {v0 : Value} {n0 : Nat} {xs0 : List Value}
set_option maxRecDepth 100000 in
set_option maxHeartbeats 2000000 in
theorem note_past (h : Mem W S b vw vl va ws mv lg ah) (hp : Past W vl v0 n0 xs0) (hb : (lg.length + 1 + (lg.length + 1) / 4 + 192) * 56 ≤ 281474976710656) (x0 th kd ad old new saw : Int) :
    Calls Try.prog 24 #[.pointer (some ⟨b, 0, none⟩), .agg #[.int .i64 x0, .int .i64 th, .int .i64 kd, .int .i64 ad, .int .u64 old, .int .u64 new, .int .u64 saw]] W fun e w' =>
      e = .returned (.tuple #[]) ∧ (∃ vl', Mem w' (fun k => S k ∨ W.heap.size ≤ k) b vw vl' va ws mv (lg ++ [⟨mv, th, kd, ad, old, new, saw⟩]) ah ∧ Past w' vl' v0 n0 xs0) ∧ Fr W w' S := by
  obtain ⟨i0, hi, hz0, hz1, hz2⟩ := info_parts info_acc
  have hlt := h.lt
  obtain ⟨a, cap, hv, hle⟩ := h.hl.form
  subst hv
  have c1 : (W.alloc (.cells #[.int .i64 x0, .int .i64 th, .int .i64 kd, .int .i64 ad, .int .u64 old, .int .u64 new, .int .u64 saw] 41)).cell? ⟨b, 1, none⟩ = some (.int .i64 mv) := by rw [World.cell?_alloc_past _ _ _ hlt]; exact h.c1
  have c2 : ∀ o, (W.alloc o).cell? ⟨b, 2, none⟩ = some (.slice a lg.length cap) := fun o => by rw [World.cell?_alloc_past _ _ _ hlt]; exact h.c2
  have hne : W.heap.size ≠ b := by omega
  have law : ∀ (w0 : World), Below W.heap.size W w0 → Has w0 (fun k => S k ∨ W.heap.size ≤ k) 41 7 (.slice a lg.length cap) lg.length (lgc lg) := fun w0 B => (h.hl.below B).mono (fun _ => .inl)
  have hB2 : ∀ o p, Below W.heap.size W ((W.alloc o).alloc p).drew := fun o p => Below.drew (((Below.refl _ _).alloc (Nat.le_refl _) o).alloc (by simp) p)
  replace hp := Mr.hid hp
  go_enter Try.func24, Try.ntmps24
  go_wp2
  go_region_law (refine step_append_past _ rfl (.tmp 13) (.tmp 15) 35 rfl (fun k => S k ∨ W.heap.size ≤ k) 41 i0 _ 7 56 Try.underlying35 hi hz0 hz1 hz2 rfl (.slice a lg.length cap) lg.length (lgc lg) (by simp [Act.eval]) (law _ (hB2 _ _)) ⟨W.heap.size + 1, 0, none⟩ 1 1 [.int .i64 mv, .int .i64 th, .int .i64 kd, .int .i64 ad, .int .u64 old, .int .u64 new, .int .u64 saw] (by simp [Act.eval]) rfl (newsAt (W.alloc _) _ #[.int .i64 mv, .int .i64 th, .int .i64 kd, .int .i64 ad, .int .u64 old, .int .u64 new, .int .u64 saw] 41 _ (by simp) rfl) (by simp [Value.oneCell']) (by omega) (by unfold maxLen; omega) hb (by right; simp; omega) ?_; intro g cap' w1 hown hgrow hat; have kb := h.grow1 (hB2 _ _) hgrow h.bl; have kc : w1.cell? ⟨b, 2, none⟩ = some (.slice a lg.length cap) := (by simp [World.cell?, kb]); have kf : w1.frozen? ⟨b, 2, none⟩ = false := (by simp [World.frozen?, kb]))
  all_goals (go_wp2; go_end0; obtain ⟨hm, hf⟩ := h.noted (a := ⟨mv, th, kd, ad, old, new, saw⟩) (hB2 _ _) rfl hown hgrow; refine ⟨rfl, ⟨_, hm, ?_⟩, hf⟩; obtain ⟨p1, p2⟩ := hat _ _ _ _ (hp.out.1.below (hB2 _ _)) (fun a1 n1 c1 e1 eb => by cases e1; exact hp.out.2 _ _ _ rfl eb); exact ⟨p1.setCell _ _ (past_ne (w1 := W) p1 kb (by decide)), fun a n cap e' eb => by cases e'; exact .inl (p2 eb)⟩)
theorem Mem.written2 (h : Mem W S b vw vl va ws mv lg ah) {w0 w1 : World} (hB : Below W.heap.size W w0) {va' : Value} {n i gw cw : Nat} {x y : Int} (hn : n = ah.length + 1) (hvw : vw = .slice (some ⟨gw, 0, none⟩) ws.length cw)
    (hown : Has w1 (fun k => S k ∨ W.heap.size ≤ k) 31 1 va' n (wrd ah ++ [.int .u64 y])) (hgrow : w0.grownBy w1 va.ownBlock) (hat : ∀ k, va'.ownBlock = some k → va.ownBlock = some k ∨ k = w0.heap.size) :
    Fr W ((w1.setCell ⟨b, 3, none⟩ va').setCell ⟨gw, i, none⟩ (.int .u64 x)) (fun k => k = b ∨ vw.ownBlock = some k ∨ va.ownBlock = some k) := by
  subst hn
  have hb := h.grow1 hB hgrow h.ba
  have hs := hB.size
  have hb' : va'.ownBlock ≠ some b := fun e => by
    rcases hat _ e with e | e
    · exact h.ba e
    · have := h.lt; omega
  have hgw := h.hw.lt gw (by rw [hvw]; rfl)
  have hgb : gw ≠ b := fun e => h.bw (by rw [hvw, e]; rfl)
  have hl1 : Has w1 S 41 7 vl lg.length (lgc lg) := (h.hl.below hB).grown hgrow (fun k hk e => has_ne h.hl h.ha (by decide) k hk e)
  have hw1 : Has w1 S 31 1 vw ws.length (wrd ws) := (h.hw.below hB).grown hgrow (fun k hk e => h.ne k hk e)
  have hlw : vl.ownBlock ≠ some gw := fun e => has_ne h.hl h.hw (by decide) gw e (by rw [hvw]; rfl)
  have haw : va'.ownBlock ≠ some gw := fun e => by
    rcases hat _ e with e | e
    · exact h.ne gw (by rw [hvw]; rfl) e
    · omega
  exact (((Fr.of_below hB).grown hgrow (fun k hk => .inl (.inr (.inr hk)))).setCell _ _ (.inl (.inl rfl))).setCell _ _ (.inl (.inr (.inl (by rw [hvw]; rfl))))
set_option maxRecDepth 100000 in
set_option maxHeartbeats 2000000 in
theorem write_past (h : Mem W S b vw vl va ws mv lg ah) (hp : Past W vl v0 n0 xs0) (hb : (ah.length + 1 + (ah.length + 1) / 4 + 192) * 8 ≤ 281474976710656) (i : Nat) (hi : i < ws.length) (x : Int) :
    Calls Try.prog 25 #[.pointer (some ⟨b, 0, none⟩), .int .i64 i, .int .u64 x] W fun e w' =>
      e = .returned (.tuple #[]) ∧ (∃ va', Mem w' (fun k => S k ∨ W.heap.size ≤ k) b vw vl va' (ws.set i x) mv lg (ah ++ [ws[i]?.getD 0]) ∧ Past w' vl v0 n0 xs0) ∧ Fr W w' S := by
  obtain ⟨i0, hi0, hz0, hz1, hz2⟩ := info_parts info_u64
  have hlt := h.lt
  have hty : ∀ k, (k = b ∨ vw.ownBlock = some k ∨ va.ownBlock = some k) → k < W.heap.size → ∃ cs t fz, W.heap[k]? = some (.cells cs t fz) ∧ t ≠ 41 := by
    rintro k (rfl | hk | hk) _
    · exact ⟨_, _, _, h.blk, by decide⟩
    · rcases h.hw.2 with ⟨rfl, _⟩ | ⟨g, _, cur, rfl, _, hg, _⟩
      · simp [Value.ownBlock] at hk
      · simp [Value.ownBlock] at hk; subst hk; exact ⟨_, _, _, hg, by decide⟩
    · rcases h.ha.2 with ⟨rfl, _⟩ | ⟨g, _, cur, rfl, _, hg, _⟩
      · simp [Value.ownBlock] at hk
      · simp [Value.ownBlock] at hk; subst hk; exact ⟨_, _, _, hg, by decide⟩
  replace hty := Mr.hid hty
  replace hp := Mr.hid hp
  obtain ⟨gw, cw, hvw, hgS, hgl, hgc, hgm⟩ := h.hw.there (by omega)
  obtain ⟨a, cap, hv, hle⟩ := h.ha.form
  have cw0 := h.hw.cells (g := gw) (by rw [hvw]; rfl) i _ (wrd_get ws i hi)
  have fw0 := h.hw.frozen (g := gw) (by rw [hvw]; rfl) i
  have hgb : gw ≠ b := fun e => h.bw (by rw [hvw, e]; rfl)
  have hn8 := h.len
  generalize hn : ws.length = n at *
  have hn := Mr.hid hn
  generalize hy : ws[i]?.getD 0 = y at *
  have hy := Mr.hid hy
  have c0 : ∀ o, (W.alloc o).cell? ⟨b, 0, none⟩ = some (.slice (some ⟨gw, 0, none⟩) n cw) := fun o => by rw [World.cell?_alloc_past _ _ _ hlt, ← hvw]; exact h.c0
  have c00 : W.cell? ⟨b, 0, none⟩ = some (.slice (some ⟨gw, 0, none⟩) n cw) := by rw [← hvw]; exact h.c0
  have c33 : W.cell? ⟨b, 3, none⟩ = some (.slice a ah.length cap) := by rw [← hv]; exact h.c3
  have c3 : ∀ o, (W.alloc o).cell? ⟨b, 3, none⟩ = some (.slice a ah.length cap) := fun o => by rw [World.cell?_alloc_past _ _ _ hlt, ← hv]; exact h.c3
  have cw1 : ∀ o, (W.alloc o).cell? ⟨gw, i, none⟩ = some (.int .u64 y) := fun o => by rw [World.cell?_alloc_past _ _ _ hgl]; exact cw0
  have law : ∀ (w0 : World), Below W.heap.size W w0 → Has w0 (fun k => S k ∨ W.heap.size ≤ k) 31 1 (.slice a ah.length cap) ah.length (wrd ah) := fun w0 B => by rw [← hv]; exact (h.ha.below B).mono (fun _ => .inl)
  have hB1 : ∀ o, Below W.heap.size W (W.alloc o).drew := fun o => Below.drew ((Below.refl _ _).alloc (Nat.le_refl _) o)
  have hbl : Value.ownBlock (.slice a ah.length cap) ≠ some b := by rw [← hv]; exact h.ba
  have hwa : Value.ownBlock (.slice a ah.length cap) ≠ some gw := by rw [← hv]; exact h.ne gw (by rw [hvw]; rfl)
  go_enter Try.func25, Try.ntmps25
  go_wp2
  go_region_law (refine step_append_has _ rfl (.tmp 10) (.tmp 18) 22 rfl (fun k => S k ∨ W.heap.size ≤ k) 31 i0 _ 1 8 Try.underlying22 hi0 hz0 hz1 hz2 rfl (.slice a ah.length cap) ah.length (wrd ah) (by simp [Act.eval]) (law _ (hB1 _)) ⟨W.heap.size, 0, none⟩ 1 1 [.int .u64 y] (by simp [Act.eval]) rfl (newsAt W _ #[.int .u64 y] 31 _ rfl rfl) (by simp [Value.oneCell']) (by omega) (by unfold maxLen; omega) hb (by right; simp) ?_; intro g cap' w1 hown hgrow hat; have kb := h.grow1 (hB1 _) hgrow hbl; have kc : w1.cell? ⟨b, 3, none⟩ = some va := (by simp [World.cell?, kb]); have kf : w1.frozen? ⟨b, 3, none⟩ = false := (by simp [World.frozen?, kb]); have kd : w1.cell? ⟨b, 0, none⟩ = some (.slice (some ⟨gw, 0, none⟩) n cw) := (by simp [World.cell?, kb, hvw]); have ke : w1.cell? ⟨gw, i, none⟩ = some (.int .u64 y) := (hgrow.cell (cw1 _) (fun e => hwa e.symm)); have kg : w1.frozen? ⟨gw, i, none⟩ = false := ((hgrow.frozen_far ⟨gw, i, none⟩ (by simp; omega) (fun e => hwa e.symm)).trans (by rw [World.frozen?_drew]; exact (World.frozen?_alloc_past _ _ _ hgl).trans fw0)))
  all_goals (go_wp2; go_end0; obtain ⟨hm, hf⟩ := h.written (i := i) (x := x) (hB1 _) rfl (by rw [hvw, hn.out]) hown (by rw [hv]; exact hgrow) (fun k hk => by rw [hv]; simp [Value.ownBlock] at hk; subst hk; exact hat); have hf2 := h.written2 (i := i) (x := x) (hB1 _) rfl (by rw [hvw, hn.out]) hown (by rw [hv]; exact hgrow) (fun k hk => by rw [hv]; simp [Value.ownBlock] at hk; subst hk; exact hat); exact ⟨rfl, ⟨_, hm, hp.out.fr hf2 hty.out⟩, hf⟩)
end
end Go.Proofs.Ytkfcfhgjhnmjlaa.Me
