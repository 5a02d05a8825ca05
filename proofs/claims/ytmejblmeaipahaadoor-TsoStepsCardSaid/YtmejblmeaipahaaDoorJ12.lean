import Derived.Test.YtmejblmeaipahaaDoorJ11
import Derived.Laws.CopyRow
/-
  TSO: a store leaves a thread's buffer.
-/
namespace Go.Proofs.YtmejblmeaipahaaDoor.Ts
open Go.RowKit Mr
set_option linter.unusedVariables false
set_option linter.unusedSimpArgs false
set_option maxRecDepth 100000
theorem wp_copyT {P : Program} {w : World} {o : Oper} {a : Act} {K : Act → World → Prop} {Q : Exit → Act → World → Prop} (d s : Operand) (t u : TypeId)
    (ho : o.op = .call { callee := .builtin .copy, args := #[d, s], argTypes := #[t, u] }) (x y : Value) (hd : a.eval d = x) (hs : a.eval s = y) (v : Value) (w1 : World)
    (hr : (Builtin.copy_ #[t, u] o.type #[x, y]).run P w = .ok v w1) (h : K (a.put o.dst v) w1) : o.wp P a w K Q := by
  unfold Oper.wp execOp
  simp only [ho, resolve, invoke, builtin, Sem.run_bind, Sem.run_pure, Result.andThen_ok, List.map_toArray, List.map_cons, List.map_nil, hd, hs, hr]
  exact h
/-- The array behind a copy within it. -/
def mvd (cs : Array Value) (q m : Nat) : Array Value := (cs.toList.take (q + m) ++ (cs.toList.drop (q + m + 2)).take (20 - m) ++ cs.toList.drop (q + m + (20 - m))).toArray
theorem mvd_size (cs : Array Value) (q m : Nat) (h : q + 22 ≤ cs.size) (hm : m ≤ 18) : (mvd cs q m).size = cs.size := by
  simp [mvd]; omega
theorem mvd_get (cs : Array Value) (q m j : Nat) (h : q + 22 ≤ cs.size) (hm : m ≤ 18) : (mvd cs q m)[j]? = if q + m ≤ j ∧ j < q + 20 then cs[j + 2]? else cs[j]? := by
  have e1 : min (q + m) cs.toList.length = q + m := by simp; omega
  have e2 : (List.take (20 - m) (List.drop (q + m + 2) cs.toList)).length = 20 - m := by simp; omega
  unfold mvd
  rw [List.getElem?_toArray]
  by_cases h1 : j < q + m
  · rw [if_neg (by omega), List.append_assoc, List.getElem?_append_left (by simp; omega), List.getElem?_take, if_pos h1]; simp
  · by_cases h2 : j < q + 20
    · rw [if_pos ⟨by omega, h2⟩, List.append_assoc, List.getElem?_append_right (by simp; omega), List.getElem?_append_left (by rw [e2, List.length_take, e1]; omega), List.getElem?_take, List.length_take, e1, if_pos (by omega), List.getElem?_drop]
      rw [show q + m + 2 + (j - (q + m)) = j + 2 by omega]; simp
    · rw [if_neg (by omega), List.getElem?_append_right (by rw [List.length_append, e2, List.length_take, e1]; omega), List.length_append, e2, List.length_take, e1, List.getElem?_drop]
      rw [show q + m + (20 - m) + (j - (q + m + (20 - m))) = j by omega]; simp
theorem Enc.leave {cs : Array Value} {s : Sv} {t n : Nat} {b : List Pd} (h : Enc cs s) (hb : s.bf[t]? = some b) (ht : t < 4) (hbl : b.length ≤ 10) (hn : n < b.length) : Enc ((mvd cs (30 + t * 22) (2 * n)).setIfInBounds (26 + t) (.int .i64 ((b.length : Int) - 1))) { s with bf := s.bf.set t (b.eraseIdx n) } := by
  have hsz := h.1
  have hl := (List.getElem?_eq_some_iff.1 hb).1
  refine ⟨by rw [Array.size_setIfInBounds, mvd_size _ _ _ (by omega) (by omega)]; exact hsz, fun j hj => ?_⟩
  have hel : ((b.eraseIdx n).length : Int) = (b.length : Int) - 1 := by rw [List.length_eraseIdx, if_pos hn]; omega
  rw [enc_bf s j t _ hl ht, hel]
  by_cases e : j = 26 + t
  · rw [if_pos e, ← e, Array.getElem?_setIfInBounds, if_pos rfl, if_pos (by rw [mvd_size _ _ _ (by omega) (by omega)]; omega)]
  · rw [if_neg e, Array.getElem?_setIfInBounds_ne (Ne.symm e), mvd_get _ _ _ _ (by omega) (by omega)]
    by_cases r : 30 + t * 22 ≤ j ∧ j < 30 + t * 22 + 22
    · rw [if_pos r, bfC_leave _ _ _ hn]
      by_cases r1 : 30 + t * 22 + 2 * n ≤ j ∧ j < 30 + t * 22 + 20
      · rw [if_pos r1, if_neg (by omega)]
        have := h.cell (k := j - (30 + t * 22) + 2) hb ht (by omega)
        rw [show 30 + t * 22 + (j - (30 + t * 22) + 2) = j + 2 by omega] at this
        exact this
      · rw [if_neg r1]
        have := h.cell (k := j - (30 + t * 22)) hb ht (by omega)
        rw [show 30 + t * 22 + (j - (30 + t * 22)) = j by omega] at this
        rw [this]
        by_cases r2 : j - (30 + t * 22) < 2 * n
        · rw [if_pos r2]
        · rw [if_neg r2, bfC_none _ _ (by omega), bfC_none _ _ (by omega)]
    · rw [if_neg r, if_neg (by omega)]
      exact h.2 j hj
set_option maxHeartbeats 8000000 in
theorem leave_any (s : Sv) (b t n : Nat) (bf : List Pd) (cs : Array Value) (w : World) (hA : Ar w b cs) (hE : Enc cs s) (ht : t < 4) (hb : s.bf[t]? = some bf) (hbl : bf.length ≤ 10) (hn : n < bf.length) :
    Calls Tryd.prog 54 #[.pointer (some ⟨b, 0, none⟩), .int .i64 (t : Int), .int .i64 (n : Int)] w fun e w' => e = .returned (.tuple #[]) ∧ (∃ cs', Ar w' b cs' ∧ Enc cs' { s with bf := s.bf.set t (bf.eraseIdx n) }) ∧ Fr w w' (fun k => k = b) := by
  have hsz := hA.2
  have lb := (Array.getElem?_eq_some_iff.1 hA.1).1
  have BU := Mr.hid (buffer_any b t cs w hA ht)
  have WT := Mr.hid (fun (W : World) (cs : Array Value) (h : Ar W b cs) => waits_any b t cs W h ht)
  have hen := Mr.hid (hE.leave hb ht hbl hn)
  have cn := hE.len hb ht
  obtain ⟨k, hk⟩ : ∃ k, k = bf.length := ⟨_, rfl⟩
  obtain ⟨m, hm⟩ : ∃ m : Nat, m = 2 * n := ⟨_, rfl⟩
  obtain ⟨m2, hm2⟩ : ∃ m2 : Nat, m2 = m + 2 := ⟨_, rfl⟩
  rw [← hm, ← hk] at hen
  rw [← hk] at cn hbl hn
  have hw1 : IntKind.i64.wrap (2 * (n : Int)) = (m : Int) := (i64x _ (by omega) (by omega)).trans (by omega)
  have hw2 : IntKind.i64.wrap ((m : Int) + 2) = (m2 : Int) := (i64x _ (by omega) (by omega)).trans (by omega)
  have hw3 : IntKind.i64.wrap ((k : Int) - 1) = (k : Int) - 1 := i64x _ (by omega) (by omega)
  have l1 : (m : Int) ≤ 22 := by omega
  have l2 : (m2 : Int) ≤ 22 := by omega
  have l3 : m ≤ 22 := by omega
  have l4 : m2 ≤ 22 := by omega
  have l5 : m < 118 - (30 + t * 22) := by omega
  have l6 : m2 < 118 - (30 + t * 22) := by omega
  have hrun : Hid (∀ (W : World) (ty : TypeId), W.heap[b]? = w.heap[b]? → (Builtin.copy_ #[22, 22] ty #[.slice (some ⟨b, 30 + t * 22 + m, none⟩) (22 - m) (118 - (30 + t * 22) - m), .slice (some ⟨b, 30 + t * 22 + m2, none⟩) (22 - m2) (118 - (30 + t * 22) - m2)]).run Tryd.prog W = .ok (goInt ((20 - m : Nat) : Int)) (W.setRow b (mvd cs (30 + t * 22) m))) := fun W ty hW => by
    obtain ⟨ii, hii, hz, hs1, hby⟩ := info_i
    have hAW : W.heap[b]? = some (.cells cs 62 (0, 0)) := hW.trans hA.1
    have hlen : (List.take (20 - m) (List.drop (30 + t * 22 + m + 2) cs.toList)).length = 20 - m := by simp; omega
    have h := run_copy_row (P := Tryd.prog) W 22 22 ty 3 b (30 + t * 22 + m) (22 - m) (118 - (30 + t * 22) - m) ⟨b, 30 + t * 22 + m2, none⟩ (22 - m2) (118 - (30 + t * 22) - m2) cs 62 ((cs.toList.drop (30 + t * 22 + m + 2)).take (20 - m)) Tryd.underlying22 (by rw [hii]; simp [hs1]) hAW (by rw [hlen]; show _ = min (22 - m2) (22 - m); omega) (fun j v hv => by
      rw [add1, cell_blk hAW]
      rw [List.getElem?_take] at hv
      split at hv
      · rw [List.getElem?_drop] at hv
        rw [show 30 + t * 22 + m2 + j = 30 + t * 22 + m + 2 + j by omega]
        simpa using hv
      · cases hv) (by rw [hlen]; omega) (fun v hv => by
      have hv' := List.mem_of_mem_drop (List.mem_of_mem_take hv)
      obtain ⟨j, hj⟩ := List.getElem?_of_mem hv'
      have hj' : cs[j]? = some v := by simpa using hj
      have hj2 : j < 118 := by have := (Array.getElem?_eq_some_iff.1 hj').1; omega
      rw [hE.2 j hj2] at hj'
      cases hj'; rfl)
    rw [hlen] at h
    exact h
  have hmv : Hid (∀ (W : World), W.heap[b]? = w.heap[b]? → Ar (W.setRow b (mvd cs (30 + t * 22) m)) b (mvd cs (30 + t * 22) m)) := fun W hW => ⟨setRow_heap W b cs _ 62 _ (hW.trans hA.1), (mvd_size _ _ _ (by omega) (by omega)).trans hsz⟩
  have hnc : Hid ((mvd cs (30 + t * 22) m)[26 + t]? = some (.int .i64 (k : Int))) := by
    show _ = _
    rw [mvd_get _ _ _ _ (by omega) (by omega), if_neg (by omega)]; exact cn
  have hFr : Hid (Fr w (w.drew.setRow b (mvd cs (30 + t * 22) m)) (fun k => k = b)) := ⟨rfl, rfl, rfl, by simp, fun j hj hn => setRow_other w.drew b j _ hn⟩
  clear hA hE hb cn
  generalize hq : 30 + t * 22 = q at *
  generalize hq' : 26 + t = q' at *
  replace hq := Mr.hid hq
  replace hq' := Mr.hid hq'
  replace hm := Mr.hid hm
  replace hm2 := Mr.hid hm2
  replace hk := Mr.hid hk
  replace hbl := Mr.hid hbl
  replace hn := Mr.hid hn
  have x1 : ¬ 118 - q = m := by omega
  have x2 : ¬ 118 - q = m2 := by omega
  go_enter Tryd.func54, Tryd.ntmps54
  go_upto_region 1 with (go_at_call 55; refine BU.out.mono ?_; clear BU; rintro e w9 ⟨rfl, hw9⟩; obtain rfl := hw9.symm)
  refine wp_region_held_drew (S := (fun _ => True)) (by kernel_rfl) trivial (fun hHeld => ?_)
  try simp only [Act.put, List.setIfInBounds_toArray, List.set_cons_zero, List.set_cons_succ]
  refine wpAnyH_take (i := 0) (oi := (⟨_, _, _, _, _, _⟩ : Oper)) (v := ?_) rfl (by kernel_rfl) (by kernel_rfl) (by kernel_rfl) (fun _ _ _ h => h) (Or.inl ⟨by rfl, ?_⟩) (by assumption) ?_
  rotate_left
  · intro w9 hSw
    (try dsimp only at hSw)
    go_simp
    all_goals (with_reducible rfl)
  try simp only [Act.put, List.setIfInBounds_toArray, List.set_cons_zero, List.set_cons_succ]
  refine wpAnyH_take (i := 1) (oi := (⟨_, _, _, _, _, _⟩ : Oper)) (v := ?_) rfl (by kernel_rfl) (by kernel_rfl) (by kernel_rfl) (fun _ _ _ h => h) (Or.inl ⟨by rfl, ?_⟩) (by assumption) ?_
  rotate_left
  · intro w9 hSw
    (try dsimp only at hSw)
    go_simp
    all_goals (with_reducible rfl)
  try simp only [Act.put, List.setIfInBounds_toArray, List.set_cons_zero, List.set_cons_succ]
  refine wpAnyH_take (i := 2) (oi := (⟨_, _, _, _, _, _⟩ : Oper)) (v := ?_) rfl (by kernel_rfl) (by kernel_rfl) (by kernel_rfl) (fun _ _ _ h => h) (Or.inl ⟨by rfl, ?_⟩) (by assumption) ?_
  rotate_left
  · intro w9 hSw
    (try dsimp only at hSw)
    go_simp
    all_goals (with_reducible rfl)
  try simp only [Act.put, List.setIfInBounds_toArray, List.set_cons_zero, List.set_cons_succ]
  refine wpAnyH_take (i := 3) (oi := (⟨_, _, _, _, _, _⟩ : Oper)) (v := ?_) rfl (by kernel_rfl) (by kernel_rfl) (by kernel_rfl) (fun _ _ _ h => h) (Or.inl ⟨by rfl, ?_⟩) (by assumption) ?_
  rotate_left
  · intro w9 hSw
    (try dsimp only at hSw)
    go_simp
    all_goals (with_reducible rfl)
  try simp only [Act.put, List.setIfInBounds_toArray, List.set_cons_zero, List.set_cons_succ]
  refine wpAnyH_take (i := 4) (oi := (⟨_, _, _, _, _, _⟩ : Oper)) (v := ?_) rfl (by kernel_rfl) (by kernel_rfl) (by kernel_rfl) (fun _ _ _ h => h) (Or.inl ⟨by rfl, ?_⟩) (by assumption) ?_
  rotate_left
  · intro w9 hSw
    (try dsimp only at hSw)
    go_simp
    all_goals (with_reducible rfl)
  try simp only [Act.put, List.setIfInBounds_toArray, List.set_cons_zero, List.set_cons_succ]
  refine wpAnyH_take (i := 5) (oi := (⟨_, _, _, _, _, _⟩ : Oper)) (v := ?_) rfl (by kernel_rfl) (by kernel_rfl) (by kernel_rfl) (fun _ _ _ h => h) (Or.inl ⟨by rfl, ?_⟩) (by assumption) ?_
  rotate_left
  · intro w9 hSw
    (try dsimp only at hSw)
    go_simp
    all_goals (with_reducible rfl)
  try simp only [Act.put, List.setIfInBounds_toArray, List.set_cons_zero, List.set_cons_succ]
  refine wpAnyH_take (i := 6) (oi := (⟨_, _, _, _, _, _⟩ : Oper)) (v := ?_) rfl (by kernel_rfl) (by kernel_rfl) (by kernel_rfl) (fun _ _ _ h => h) (Or.inl ⟨by rfl, ?_⟩) (by assumption) ?_
  rotate_left
  · intro w9 hSw
    (try dsimp only at hSw)
    go_simp
    all_goals (with_reducible rfl)
  try simp only [Act.put, List.setIfInBounds_toArray, List.set_cons_zero, List.set_cons_succ]
  refine wpAnyH_take (i := 7) (oi := (⟨_, _, _, _, _, _⟩ : Oper)) (v := ?_) rfl (by kernel_rfl) (by kernel_rfl) (by kernel_rfl) (fun _ _ _ h => h) (Or.inl ⟨by rfl, ?_⟩) (by assumption) ?_
  rotate_left
  · intro w9 hSw
    (try dsimp only at hSw)
    go_simp
    all_goals (with_reducible rfl)
  try simp only [Act.put, List.setIfInBounds_toArray, List.set_cons_zero, List.set_cons_succ]
  refine wpAnyH_take (i := 8) (oi := (⟨_, _, _, _, _, _⟩ : Oper)) (v := ?_) rfl (by kernel_rfl) (by kernel_rfl) (by kernel_rfl) (fun _ _ _ h => h) (Or.inl ⟨by rfl, ?_⟩) (by assumption) ?_
  rotate_left
  · intro w9 hSw
    (try dsimp only at hSw)
    go_simp
    all_goals (with_reducible rfl)
  try simp only [Act.put, List.setIfInBounds_toArray, List.set_cons_zero, List.set_cons_succ]
  refine wpAnyH_ready (rs := [9]) (by kernel_rfl) (by simp) ?_
  refine AllReadyH.cons (o := (⟨_, _, _, _, _, _⟩ : Oper)) rfl (fun K hK => ?_) (AllReadyH.nil)
  refine wp_copyT _ _ 22 22 rfl _ _ rfl rfl _ _ (hrun.out w.drew _ rfl) ?_
  refine hK.out _ _ trivial (fun hHeld9 => ?_)
  clear hK K hHeld
  have hHeld := hHeld9
  clear hHeld9
  try simp only [Act.put, List.setIfInBounds_toArray, List.set_cons_zero, List.set_cons_succ]
  refine wpAnyH_done (by kernel_rfl) ?_ _
  have hA3 := hmv.out w.drew rfl
  have c3 : (w.drew.setRow b (mvd cs q m)).cell? ⟨b, q', none⟩ = some (.int .i64 (k : Int)) := (cell_blk hA3.1 q').trans hnc.out
  have f3 : (w.drew.setRow b (mvd cs q m)).frozen? ⟨b, q', none⟩ = false := by unfold World.frozen?; rw [hA3.1]; rfl
  have l9 := (Array.getElem?_eq_some_iff.1 hA3.1).1
  have W3 := Mr.hid (WT.out _ _ hA3)
  have hfin : Hid ((∃ cs', Ar ((w.drew.setRow b (mvd cs q m)).setCell ⟨b, q', none⟩ (.int .i64 ((k : Int) - 1))) b cs' ∧ Enc cs' { s with bf := s.bf.set t (bf.eraseIdx n) }) ∧ Fr w ((w.drew.setRow b (mvd cs q m)).setCell ⟨b, q', none⟩ (.int .i64 ((k : Int) - 1))) (fun k => k = b)) := ⟨⟨_, hA3.set _ _, hen.out⟩, hFr.out.setCell _ _ (.inl rfl)⟩
  clear hA3 hFr hHeld hrun hmv
  generalize w.drew.setRow b (mvd cs q m) = w3 at *
  go_wp2_with (go_at_call 41; refine W3.out.mono ?_; clear W3; rintro e w9 ⟨rfl, hw9⟩; obtain rfl := hw9.symm)
  exact ⟨rfl, .tuple #[], by simp [results, Tryd.results54, go_sem], rfl, hfin.out⟩
end Go.Proofs.YtmejblmeaipahaaDoor.Ts
/-
  TSO: the program's rule of stores.
-/
namespace Go.Proofs.YtmejblmeaipahaaDoor.Ts
open Go.RowKit Mr
set_option linter.unusedVariables false
set_option linter.unusedSimpArgs false
set_option maxRecDepth 100000
theorem fr_two {a b c : World} {S : Nat → Prop} (h : Fr a b S) (k : Fr b c S) : Fr a c S := h.trans (k.mono (fun _ => .inl))
/-- The state behind a store. -/
def stoS (o : Int) (s : Sv) (t : Nat) (bf : List Pd) (ad x : Int) : Sv := if o = 1 then { s with ws := s.ws.set ad.toNat x } else { s with bf := s.bf.set t (bf ++ [⟨ad, x⟩]) }
set_option maxHeartbeats 8000000 in
theorem stores_vw (s : Sv) (b t an : Nat) (o kd rg vl ol ct : Int) (r : Rg) (bf : List Pd) (cs : Array Value) (w : World) (hA : Ar w b cs) (hE : Enc cs s) (ht : t < 4) (hr : s.rg[t]? = some r) (hb : s.bf[t]? = some bf) (hbl : bf.length ≤ 10) (had : an < s.ws.length) (hws : s.ws.length ≤ 6) (ho : o = 1) :
    Calls Tryd.prog 48 #[ptV b t o, (⟨kd, rg, (an : Int), vl, -1, ol, ct⟩ : In).val] w fun e w' => e = .returned (.bool true) ∧ (∃ cs', Ar w' b cs' ∧ Enc cs' { s with ws := s.ws.set an vl }) ∧ Fr w w' (fun k => k = b) := by
  have R0 : Rl w (bx2 w b t o ⟨kd, rg, (an : Int), vl, -1, ol, ct⟩) b t o ⟨kd, rg, (an : Int), vl, -1, ol, ct⟩ s := Rl.start hA hE
  have lan : (an : Int) < 6 := by omega
  have dn : ((-1 : Int) != -1) = false := by simp
  have dO : (o == 1) = true := by rw [ho]; simp
  have ST : Hid (∀ (W : World) (x : Int), Rl w W b t o ⟨kd, rg, (an : Int), vl, -1, ol, ct⟩ s → Rl w (W.setCell ⟨b, an, none⟩ (.int .i64 x)) b t o ⟨kd, rg, (an : Int), vl, -1, ol, ct⟩ { s with ws := s.ws.set an x }) := fun W x hW => hW.set (by omega) (fun j hj => enc_ws s j an x had hws)
  have WD : Hid (∀ W : World, Rl w W b t o ⟨kd, rg, (an : Int), vl, -1, ol, ct⟩ s → Calls Tryd.prog 35 #[.pointer (some ⟨b, 0, none⟩)] W fun e w' => e = .returned (.slice (some ⟨b, 0, none⟩) 6 118) ∧ w' = W) := fun W hW => hW.words
  have CW : Hid (∀ (W : World), Rl w W b t o ⟨kd, rg, (an : Int), vl, -1, ol, ct⟩ s → W.cell? ⟨b, an, none⟩ = some (.int .i64 (enc s an))) := fun W hW => hW.cell (by omega)
  have lb := R0.lb
  have p0 := R0.p0
  have p1 := R0.p1
  have p2 := R0.p2
  have i2 := R0.i2
  have i3 := R0.i3
  have i4 := R0.i4
  dsimp only at i2 i3 i4
  replace R0 := Mr.hid R0
  replace ho := Mr.hid ho
  clear hA hE hr hb hbl had hws
  unfold ptV In.val
  go_enter Tryd.func48, Tryd.ntmps48
  go_upto_region 1 with fail
  show Code.wp _ _ _ _ (bx2 w b t o ⟨kd, rg, (an : Int), vl, -1, ol, ct⟩)
  generalize bx2 w b t o ⟨kd, rg, (an : Int), vl, -1, ol, ct⟩ = w1 at *
  go_upto_region 5 with fail
  have kW := CW.out _ R0.out
  have kf := R0.out.fz an
  have kl := R0.out.lbW
  have khb : ¬ w.heap.size = b := by omega
  have khb1 : ¬ w.heap.size + 1 = b := by omega
  have khb2 : ¬ b = w.heap.size := by omega
  have khb3 : ¬ b = w.heap.size + 1 := by omega
  go_region_held3 (fun W => W.cell? ⟨w.heap.size, 0, none⟩ = some (.pointer (some ⟨b, 0, none⟩)) ∧ W.cell? ⟨w.heap.size + 1, 2, none⟩ = some (.int .i64 (an : Int))) (simp [*, go_sem])
    (first | (go_at_call 35; refine (WD.out _ R0.out.drew).mono ?_; rintro e w9 ⟨rfl, hw9⟩; obtain rfl := hw9.symm))
  have hfin := Mr.hid ((ST.out _ vl R0.out).drew)
  go_wp2
  go_ret
  exact ⟨rfl, hfin.out.done⟩
set_option maxHeartbeats 8000000 in
theorem stores_vb (s : Sv) (b t an : Nat) (o kd rg vl ol ct : Int) (r : Rg) (bf : List Pd) (cs : Array Value) (w : World) (hA : Ar w b cs) (hE : Enc cs s) (ht : t < 4) (hr : s.rg[t]? = some r) (hb : s.bf[t]? = some bf) (hbl : bf.length ≤ 10) (had : an < s.ws.length) (hws : s.ws.length ≤ 6) (ho : o ≠ 1) :
    Calls Tryd.prog 48 #[ptV b t o, (⟨kd, rg, (an : Int), vl, -1, ol, ct⟩ : In).val] w fun e w' => e = .returned (.bool true) ∧ (∃ cs', Ar w' b cs' ∧ Enc cs' { s with bf := s.bf.set t (bf ++ [⟨(an : Int), vl⟩]) }) ∧ Fr w w' (fun k => k = b) := by
  have R0 : Rl w (bx2 w b t o ⟨kd, rg, (an : Int), vl, -1, ol, ct⟩) b t o ⟨kd, rg, (an : Int), vl, -1, ol, ct⟩ s := Rl.start hA hE
  have lan : (an : Int) < 6 := by omega
  have dn : ((-1 : Int) != -1) = false := by simp
  have dO : (o == 1) = false := beq_eq_false_iff_ne.2 ho
  have JN : Hid (∀ (W : World) (x : Int), Rl w W b t o ⟨kd, rg, (an : Int), vl, -1, ol, ct⟩ s → Calls Tryd.prog 46 #[.pointer (some ⟨b, 0, none⟩), .int .i64 (t : Int), .agg #[.int .i64 (an : Int), .int .i64 x]] W fun e w' => e = .returned (.tuple #[]) ∧ (∃ cs', Ar w' b cs' ∧ Enc cs' { s with bf := s.bf.set t (bf ++ [⟨(an : Int), x⟩]) }) ∧ Fr w w' (fun k => k = b)) := fun W x hW => by
    obtain ⟨cs', hA', hE'⟩ := hW.ar
    exact (join_any s b t (an : Int) x bf cs' W hA' hE' ht hb hbl).mono (fun e w' ⟨h1, h2, h3⟩ => ⟨h1, h2, fr_two hW.fr h3⟩)
  have lb := R0.lb
  have p0 := R0.p0
  have p1 := R0.p1
  have p2 := R0.p2
  have i2 := R0.i2
  have i3 := R0.i3
  have i4 := R0.i4
  dsimp only at i2 i3 i4
  replace R0 := Mr.hid R0
  replace ho := Mr.hid ho
  clear hA hE hr hb hbl had hws
  unfold ptV In.val
  go_enter Tryd.func48, Tryd.ntmps48
  go_upto_region 1 with fail
  show Code.wp _ _ _ _ (bx2 w b t o ⟨kd, rg, (an : Int), vl, -1, ol, ct⟩)
  generalize bx2 w b t o ⟨kd, rg, (an : Int), vl, -1, ol, ct⟩ = w1 at *
  go_wp2_with (go_at_call 46; refine (JN.out _ vl R0.out).mono ?_; clear JN; rintro e w5 ⟨rfl, D5⟩; replace D5 := Mr.hid D5)
  go_ret
  exact ⟨rfl, D5.out⟩
set_option maxHeartbeats 8000000 in
theorem stores_rw (s : Sv) (b t an fn : Nat) (o kd rg vl ol ct : Int) (r : Rg) (bf : List Pd) (cs : Array Value) (w : World) (hA : Ar w b cs) (hE : Enc cs s) (ht : t < 4) (hr : s.rg[t]? = some r) (hb : s.bf[t]? = some bf) (hbl : bf.length ≤ 10) (had : an < s.ws.length) (hws : s.ws.length ≤ 6) (hfn : fn < 4) (ho : o = 1) :
    Calls Tryd.prog 48 #[ptV b t o, (⟨kd, rg, (an : Int), vl, (fn : Int), ol, ct⟩ : In).val] w fun e w' => e = .returned (.bool true) ∧ (∃ cs', Ar w' b cs' ∧ Enc cs' { s with ws := s.ws.set an (r.get fn) }) ∧ Fr w w' (fun k => k = b) := by
  have R0 : Rl w (bx2 w b t o ⟨kd, rg, (an : Int), vl, (fn : Int), ol, ct⟩) b t o ⟨kd, rg, (an : Int), vl, (fn : Int), ol, ct⟩ s := Rl.start hA hE
  have lan : (an : Int) < 6 := by omega
  have RG : Hid (∀ W : World, Rl w W b t o ⟨kd, rg, (an : Int), vl, (fn : Int), ol, ct⟩ s → Calls Tryd.prog 58 #[ptV b t o, .int .i64 (fn : Int)] W fun e w' => e = .returned (.pointer (some ⟨b, 6 + t * 4 + fn, none⟩)) ∧ Rl w w' b t o ⟨kd, rg, (an : Int), vl, (fn : Int), ol, ct⟩ s ∧ Below W.heap.size W w') := fun W hW => hW.reg ht hfn
  have CL : Hid (∀ (W : World), Rl w W b t o ⟨kd, rg, (an : Int), vl, (fn : Int), ol, ct⟩ s → W.cell? ⟨b, 6 + t * 4 + fn, none⟩ = some (.int .i64 (r.get fn))) := fun W hW => (hW.cell (by omega)).trans (by rw [enc_reg hr ht hfn])
  have dn : ((fn : Int) != -1) = true := bne_iff_ne.2 (by omega)
  have dO : (o == 1) = true := by rw [ho]; simp
  have ST : Hid (∀ (W : World) (x : Int), Rl w W b t o ⟨kd, rg, (an : Int), vl, (fn : Int), ol, ct⟩ s → Rl w (W.setCell ⟨b, an, none⟩ (.int .i64 x)) b t o ⟨kd, rg, (an : Int), vl, (fn : Int), ol, ct⟩ { s with ws := s.ws.set an x }) := fun W x hW => hW.set (by omega) (fun j hj => enc_ws s j an x had hws)
  have WD : Hid (∀ W : World, Rl w W b t o ⟨kd, rg, (an : Int), vl, (fn : Int), ol, ct⟩ s → Calls Tryd.prog 35 #[.pointer (some ⟨b, 0, none⟩)] W fun e w' => e = .returned (.slice (some ⟨b, 0, none⟩) 6 118) ∧ w' = W) := fun W hW => hW.words
  have CW : Hid (∀ (W : World), Rl w W b t o ⟨kd, rg, (an : Int), vl, (fn : Int), ol, ct⟩ s → W.cell? ⟨b, an, none⟩ = some (.int .i64 (enc s an))) := fun W hW => hW.cell (by omega)
  have lb := R0.lb
  have p0 := R0.p0
  have p1 := R0.p1
  have p2 := R0.p2
  have i2 := R0.i2
  have i3 := R0.i3
  have i4 := R0.i4
  dsimp only at i2 i3 i4
  replace R0 := Mr.hid R0
  replace ho := Mr.hid ho
  clear hA hE hr hb hbl had hws
  unfold ptV In.val
  generalize hq : 6 + t * 4 + fn = q at *
  replace hq := Mr.hid hq
  generalize hg : r.get fn = rv at *
  replace hg := Mr.hid hg
  go_enter Tryd.func48, Tryd.ntmps48
  go_upto_region 1 with fail
  show Code.wp _ _ _ _ (bx2 w b t o ⟨kd, rg, (an : Int), vl, (fn : Int), ol, ct⟩)
  generalize bx2 w b t o ⟨kd, rg, (an : Int), vl, (fn : Int), ol, ct⟩ = w1 at *
  go_upto_region 5 with (go_at_call 58; refine (RG.out _ R0.out).mono ?_; clear RG; rintro e w4 ⟨rfl, R4, B4⟩; have p04 := R4.p0; have p14 := R4.p1; have p24 := R4.p2; have i24 := R4.i2; dsimp only at i24; have l4 := R4.lbW; have c4 := CL.out _ R4; replace R4 := Mr.hid R4; clear B4)
  have kW := CW.out _ R4.out
  have kf := R4.out.fz an
  have kl := R4.out.lbW
  have khb : ¬ w.heap.size = b := by omega
  have khb1 : ¬ w.heap.size + 1 = b := by omega
  have khb2 : ¬ b = w.heap.size := by omega
  have khb3 : ¬ b = w.heap.size + 1 := by omega
  go_region_held3 (fun W => W.cell? ⟨w.heap.size, 0, none⟩ = some (.pointer (some ⟨b, 0, none⟩)) ∧ W.cell? ⟨w.heap.size + 1, 2, none⟩ = some (.int .i64 (an : Int))) (simp [*, go_sem])
    (first | (go_at_call 35; refine (WD.out _ R4.out.drew).mono ?_; rintro e w9 ⟨rfl, hw9⟩; obtain rfl := hw9.symm))
  have hfin := Mr.hid ((ST.out _ rv R4.out).drew)
  go_wp2
  go_ret
  exact ⟨rfl, hfin.out.done⟩
set_option maxHeartbeats 8000000 in
theorem stores_rb (s : Sv) (b t an fn : Nat) (o kd rg vl ol ct : Int) (r : Rg) (bf : List Pd) (cs : Array Value) (w : World) (hA : Ar w b cs) (hE : Enc cs s) (ht : t < 4) (hr : s.rg[t]? = some r) (hb : s.bf[t]? = some bf) (hbl : bf.length ≤ 10) (had : an < s.ws.length) (hws : s.ws.length ≤ 6) (hfn : fn < 4) (ho : o ≠ 1) :
    Calls Tryd.prog 48 #[ptV b t o, (⟨kd, rg, (an : Int), vl, (fn : Int), ol, ct⟩ : In).val] w fun e w' => e = .returned (.bool true) ∧ (∃ cs', Ar w' b cs' ∧ Enc cs' { s with bf := s.bf.set t (bf ++ [⟨(an : Int), (r.get fn)⟩]) }) ∧ Fr w w' (fun k => k = b) := by
  have R0 : Rl w (bx2 w b t o ⟨kd, rg, (an : Int), vl, (fn : Int), ol, ct⟩) b t o ⟨kd, rg, (an : Int), vl, (fn : Int), ol, ct⟩ s := Rl.start hA hE
  have lan : (an : Int) < 6 := by omega
  have RG : Hid (∀ W : World, Rl w W b t o ⟨kd, rg, (an : Int), vl, (fn : Int), ol, ct⟩ s → Calls Tryd.prog 58 #[ptV b t o, .int .i64 (fn : Int)] W fun e w' => e = .returned (.pointer (some ⟨b, 6 + t * 4 + fn, none⟩)) ∧ Rl w w' b t o ⟨kd, rg, (an : Int), vl, (fn : Int), ol, ct⟩ s ∧ Below W.heap.size W w') := fun W hW => hW.reg ht hfn
  have CL : Hid (∀ (W : World), Rl w W b t o ⟨kd, rg, (an : Int), vl, (fn : Int), ol, ct⟩ s → W.cell? ⟨b, 6 + t * 4 + fn, none⟩ = some (.int .i64 (r.get fn))) := fun W hW => (hW.cell (by omega)).trans (by rw [enc_reg hr ht hfn])
  have dn : ((fn : Int) != -1) = true := bne_iff_ne.2 (by omega)
  have dO : (o == 1) = false := beq_eq_false_iff_ne.2 ho
  have JN : Hid (∀ (W : World) (x : Int), Rl w W b t o ⟨kd, rg, (an : Int), vl, (fn : Int), ol, ct⟩ s → Calls Tryd.prog 46 #[.pointer (some ⟨b, 0, none⟩), .int .i64 (t : Int), .agg #[.int .i64 (an : Int), .int .i64 x]] W fun e w' => e = .returned (.tuple #[]) ∧ (∃ cs', Ar w' b cs' ∧ Enc cs' { s with bf := s.bf.set t (bf ++ [⟨(an : Int), x⟩]) }) ∧ Fr w w' (fun k => k = b)) := fun W x hW => by
    obtain ⟨cs', hA', hE'⟩ := hW.ar
    exact (join_any s b t (an : Int) x bf cs' W hA' hE' ht hb hbl).mono (fun e w' ⟨h1, h2, h3⟩ => ⟨h1, h2, fr_two hW.fr h3⟩)
  have lb := R0.lb
  have p0 := R0.p0
  have p1 := R0.p1
  have p2 := R0.p2
  have i2 := R0.i2
  have i3 := R0.i3
  have i4 := R0.i4
  dsimp only at i2 i3 i4
  replace R0 := Mr.hid R0
  replace ho := Mr.hid ho
  clear hA hE hr hb hbl had hws
  unfold ptV In.val
  generalize hq : 6 + t * 4 + fn = q at *
  replace hq := Mr.hid hq
  generalize hg : r.get fn = rv at *
  replace hg := Mr.hid hg
  go_enter Tryd.func48, Tryd.ntmps48
  go_upto_region 1 with fail
  show Code.wp _ _ _ _ (bx2 w b t o ⟨kd, rg, (an : Int), vl, (fn : Int), ol, ct⟩)
  generalize bx2 w b t o ⟨kd, rg, (an : Int), vl, (fn : Int), ol, ct⟩ = w1 at *
  go_wp2_with (first | (go_at_call 58; refine (RG.out _ R0.out).mono ?_; clear RG; rintro e w4 ⟨rfl, R4, B4⟩; have p04 := R4.p0; have p14 := R4.p1; have p24 := R4.p2; have i24 := R4.i2; dsimp only at i24; have l4 := R4.lbW; have c4 := CL.out _ R4; replace R4 := Mr.hid R4; clear B4) | (go_at_call 46; refine (JN.out _ rv R4.out).mono ?_; clear JN; rintro e w5 ⟨rfl, D5⟩; replace D5 := Mr.hid D5))
  go_ret
  exact ⟨rfl, D5.out⟩
theorem stores_any (s : Sv) (b t : Nat) (o : Int) (i : In) (r : Rg) (bf : List Pd) (cs : Array Value) (w : World) (hA : Ar w b cs) (hE : Enc cs s) (ht : t < 4) (hr : s.rg[t]? = some r) (hb : s.bf[t]? = some bf) (hbl : bf.length ≤ 10) (had : 0 ≤ i.ad ∧ i.ad < (s.ws.length : Int)) (hws : s.ws.length ≤ 6) (hfr : -1 ≤ i.fr ∧ i.fr < 4) :
    Calls Tryd.prog 48 #[ptV b t o, i.val] w fun e w' => e = .returned (.bool true) ∧ (∃ cs', Ar w' b cs' ∧ Enc cs' (stoS o s t bf i.ad (if i.fr = -1 then i.vl else r.get i.fr.toNat))) ∧ Fr w w' (fun k => k = b) := by
  obtain ⟨kd, rg, ad, vl, fr, ol, ct⟩ := i
  obtain ⟨an, han⟩ := Int.eq_ofNat_of_zero_le had.1
  dsimp only at han hfr had
  subst han
  have h1 : an < s.ws.length := by omega
  by_cases hf : fr = -1
  · subst hf
    by_cases ho : o = 1
    · have h := stores_vw s b t an o kd rg vl ol ct r bf cs w hA hE ht hr hb hbl h1 hws ho
      simpa [stoS, ho] using h
    · have h := stores_vb s b t an o kd rg vl ol ct r bf cs w hA hE ht hr hb hbl h1 hws ho
      simpa [stoS, ho] using h
  · obtain ⟨fn, hfn⟩ := Int.eq_ofNat_of_zero_le (show 0 ≤ fr by omega)
    subst hfn
    have h4 : fn < 4 := by omega
    have hne : ¬ ((fn : Int) = -1) := by omega
    by_cases ho : o = 1
    · have h := stores_rw s b t an fn o kd rg vl ol ct r bf cs w hA hE ht hr hb hbl h1 hws h4 ho
      simpa [stoS, ho, hne] using h
    · have h := stores_rb s b t an fn o kd rg vl ol ct r bf cs w hA hE ht hr hb hbl h1 hws h4 ho
      simpa [stoS, ho, hne] using h
end Go.Proofs.YtmejblmeaipahaaDoor.Ts
