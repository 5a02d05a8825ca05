import Derived.Test.YtcomelbphdjnnaaGreatDoorJ27
import Derived.Test.YtcomelbphdjnnaaGreatDoorJ30
import Derived.Laws.IdiomStrings
import Derived.Test.YtcomelbphdjnnaaGreatDoorJ09
import Derived.Deep.RegionHeld3
import Derived.BigQuiet
/-
  SCRIPT: the document's Print, what it refuses.
-/
namespace Go.Proofs.YtcomelbphdjnnaaGreatDoor.Sc
open Go.RowKit Mr
open Go.Lib (itoa)
set_option linter.unusedVariables false
set_option linter.unusedSimpArgs false
set_option maxRecDepth 100000
set_option maxHeartbeats 8000000 in
theorem refPrint_bad (c0 c1 c2 c3 c4 c5 c6 : Int) (a : Option Addr) (n cap : Nat) (ms : List Mv) (w : World) (hcf : Wc.cfgB c0 c1 c2 c3 c4 c5 c6 = false) :
    Calls Tryz.prog 7 #[.agg #[.int .i64 c0, .int .i64 c1, .int .i64 c2, .int .i64 c3, .int .i64 c4, .int .i64 c5, .int .i64 c6], .slice a n cap] w fun e w' => e = .returned (.tuple #[.string (prT (Wc.cfgB c0 c1 c2 c3 c4 c5 c6) [c0, c1, c2, c3, c4, c5, c6] ms), .int .i64 (prE (Wc.cfgB c0 c1 c2 c3 c4 c5 c6) [c0, c1, c2, c3, c4, c5, c6] ms)]) ∧ Below w.heap.size w w' := by
  have RC := Mr.hid (fun W => Wc.refConfig c0 c1 c2 c3 c4 c5 c6 W)
  rw [hcf] at RC
  rw [hcf]
  have e1 : Hid (prT false [c0, c1, c2, c3, c4, c5, c6] ms = ⟨#[]⟩ ∧ prE false [c0, c1, c2, c3, c4, c5, c6] ms = 1) := ⟨rfl, rfl⟩
  rw [e1.out.1, e1.out.2]
  clear e1 hcf
  have B0 : Hid (Below w.heap.size w (w.alloc (.cells #[.int .i64 c0, .int .i64 c1, .int .i64 c2, .int .i64 c3, .int .i64 c4, .int .i64 c5, .int .i64 c6] 23))) := (Below.refl _ _).alloc (Nat.le_refl _) _
  go_enter Tryz.func7, Tryz.ntmps7
  go_wp2_with (go_at_call 15; refine (RC.out _).mono ?_; clear RC; rintro e w1 ⟨rfl, B1⟩)
  go_ret2
  exact ⟨rfl, B0.out.trans (B1.mono (by simp))⟩
set_option maxHeartbeats 8000000 in
theorem refPrint_long (c0 c1 c2 c3 c4 c5 c6 : Int) (a : Option Addr) (n cap : Nat) (ms : List Mv) (w : World) (hcf : Wc.cfgB c0 c1 c2 c3 c4 c5 c6 = true) (hl : n = ms.length) (hn : ¬ n ≤ 65536) :
    Calls Tryz.prog 7 #[.agg #[.int .i64 c0, .int .i64 c1, .int .i64 c2, .int .i64 c3, .int .i64 c4, .int .i64 c5, .int .i64 c6], .slice a n cap] w fun e w' => e = .returned (.tuple #[.string (prT (Wc.cfgB c0 c1 c2 c3 c4 c5 c6) [c0, c1, c2, c3, c4, c5, c6] ms), .int .i64 (prE (Wc.cfgB c0 c1 c2 c3 c4 c5 c6) [c0, c1, c2, c3, c4, c5, c6] ms)]) ∧ Below w.heap.size w w' := by
  have RC := Mr.hid (fun W => Wc.refConfig c0 c1 c2 c3 c4 c5 c6 W)
  rw [hcf] at RC
  rw [hcf]
  have hp : Hid (prT true [c0, c1, c2, c3, c4, c5, c6] ms = ⟨#[]⟩ ∧ prE true [c0, c1, c2, c3, c4, c5, c6] ms = 3) := by
    have h1 : ¬ ms.length ≤ 65536 := by omega
    exact ⟨by unfold prT; rw [if_pos rfl, if_neg h1], by unfold prE; rw [if_pos rfl, if_neg h1]⟩
  rw [hp.out.1, hp.out.2]
  have d0 : decide ((n : Int) > 65536) = true := decide_eq_true (by omega)
  have d1 : (65536 : Int) < (n : Int) := by omega
  clear hp hcf hl
  have B0 : Hid (Below w.heap.size w (w.alloc (.cells #[.int .i64 c0, .int .i64 c1, .int .i64 c2, .int .i64 c3, .int .i64 c4, .int .i64 c5, .int .i64 c6] 23))) := (Below.refl _ _).alloc (Nat.le_refl _) _
  go_enter Tryz.func7, Tryz.ntmps7
  go_wp2_with (go_at_call 15; refine (RC.out _).mono ?_; clear RC; rintro e w1 ⟨rfl, B1⟩)
  go_ret2
  exact ⟨rfl, B0.out.trans (B1.mono (by simp))⟩
end Go.Proofs.YtcomelbphdjnnaaGreatDoor.Sc
/-
  THE DOCUMENT's Twin and Whole, for the seats of layer 17.
-/
namespace Go.Proofs.YtcomelbphdjnnaaGreatDoor.Sc
open Go.RowKit Mr
set_option linter.unusedVariables false
set_option linter.unusedSimpArgs false
set_option linter.unusedVariables false
section
variable {P : Program} (w : World)
theorem run_append_none (t ty e : TypeId) (i : TypeInfo) (ht : P.underlying t = some (.slice e)) (hi : P.info? e = some i) (a0 : Option Addr) (c : Nat) :
    (Builtin.append_ #[t, t] ty #[.slice none 0 0, .slice a0 0 c]).run P w = .ok (.slice none 0 0) w := by
  cases a0 <;> simp [Builtin.append_, run_underlying ht, sizeOf, typeInfo, hi, Builtin.lenOf, Builtin.firstCells, loadCells, loadCellsFrom]
theorem run_append_fresh (S : Nat → Prop) (t ty e : TypeId) (i : TypeInfo) (z : Value) (size bytes : Nat) (ht : P.underlying t = some (.slice e)) (hi : P.info? e = some i) (hz : i.zero = some z)
    (hsize : i.size = size) (hby : i.bytes = bytes) (hzs : z.cells.size = size) (a0 : Option Addr) (m c : Nat) (news : List Value) (hl : news.length = m * size) (ha : a0 = none → m = 0) (hnews : ∀ ad, a0 = some ad → ∀ j u, news[j]? = some u → w.cell? (ad.add j) = some u)
    (h1 : ∀ u ∈ news, u.oneCell' = true) (h63 : m ≤ maxLen) (hbytes : (m + m / 4 + 192) * bytes ≤ 281474976710656) (hS : S w.heap.size) :
    ∃ v' w', (Builtin.append_ #[t, t] ty #[.slice none 0 0, .slice a0 m c]).run P w = .ok v' w' ∧ Has w' S e size v' m news ∧ w.grownBy w' none ∧ (∀ k, v'.ownBlock = some k → k = w.heap.size) := by
  by_cases hm : m = 0
  · subst hm
    have hn : news = [] := List.eq_nil_of_length_eq_zero (by simpa using hl)
    subst hn
    exact ⟨_, _, run_append_none w t ty e i ht hi a0 c, Has.nil _ _ _ _, ⟨rfl, rfl, rfl, Nat.le_refl _, fun _ _ _ => rfl⟩, fun k hk => by simp [Value.ownBlock] at hk⟩
  · cases a0 with
    | none => exact absurd (ha rfl) hm
    | some ad =>
      obtain ⟨g, cap, w', hr, h2, h3, h4⟩ := run_append_has (P := P) w S t ty e i z size bytes ht hi hz hsize hby hzs (.slice none 0 0) 0 [] (Has.nil _ _ _ _) ad m c news hl (hnews ad rfl) h1 (by omega) (by omega) (by rw [Nat.zero_add]; exact hbytes) hS
      rw [Nat.zero_add] at hr h2
      rw [List.nil_append] at h2
      refine ⟨_, w', hr, h2, h3, fun k hk => ?_⟩
      rcases h4 with h4 | h4
      · simp [Value.ownBlock] at h4
      · simp [Value.ownBlock] at hk
        omega
theorem wp_append_fresh {o : Oper} {a : Act} {K : Act → World → Prop} {Q : Exit → Act → World → Prop} (s x : Operand) (t : TypeId)
    (ho : o.op = .call { callee := .builtin .append, args := #[s, x], argTypes := #[t, t] })
    (S : Nat → Prop) (e : TypeId) (i : TypeInfo) (z : Value) (size bytes : Nat) (ht : P.underlying t = some (.slice e)) (hi : P.info? e = some i) (hz : i.zero = some z)
    (hsize : i.size = size) (hby : i.bytes = bytes) (hzs : z.cells.size = size) (hs : a.eval s = .slice none 0 0) (a0 : Option Addr) (m c : Nat) (news : List Value) (hx : a.eval x = .slice a0 m c) (hl : news.length = m * size) (ha : a0 = none → m = 0) (hnews : ∀ ad, a0 = some ad → ∀ j u, news[j]? = some u → w.cell? (ad.add j) = some u)
    (h1 : ∀ u ∈ news, u.oneCell' = true) (h63 : m ≤ maxLen) (hbytes : (m + m / 4 + 192) * bytes ≤ 281474976710656) (hS : S w.heap.size)
    (h : ∀ v' w', Has w' S e size v' m news → w.grownBy w' none → (∀ k, v'.ownBlock = some k → k = w.heap.size) → K (a.put o.dst v') w') : o.wp P a w K Q := by
  obtain ⟨v', w', hr, h2, h3, h4⟩ := run_append_fresh (P := P) w S t o.type e i z size bytes ht hi hz hsize hby hzs a0 m c news hl ha hnews h1 h63 hbytes hS
  unfold Oper.wp execOp
  simp only [ho, resolve, invoke, builtin, Sem.run_bind, Sem.run_pure, Result.andThen_ok, List.map_toArray, List.map_cons, List.map_nil, hs, hx, hr]
  exact h v' w' h2 h3 h4
theorem wpList_append_fresh {ops : Array Oper} {rest : List Oper} {o : Oper} {a : Act} {Q : Exit → Act → World → Prop} (hgd : o.guard = none) (s x : Operand) (t : TypeId)
    (ho : o.op = .call { callee := .builtin .append, args := #[s, x], argTypes := #[t, t] })
    (S : Nat → Prop) (e : TypeId) (i : TypeInfo) (z : Value) (size bytes : Nat) (ht : P.underlying t = some (.slice e)) (hi : P.info? e = some i) (hz : i.zero = some z)
    (hsize : i.size = size) (hby : i.bytes = bytes) (hzs : z.cells.size = size) (hs : a.eval s = .slice none 0 0) (a0 : Option Addr) (m c : Nat) (news : List Value) (hx : a.eval x = .slice a0 m c) (hl : news.length = m * size) (ha : a0 = none → m = 0) (hnews : ∀ ad, a0 = some ad → ∀ j u, news[j]? = some u → w.cell? (ad.add j) = some u)
    (h1 : ∀ u ∈ news, u.oneCell' = true) (h63 : m ≤ maxLen) (hbytes : (m + m / 4 + 192) * bytes ≤ 281474976710656) (hS : S w.heap.size)
    (h : ∀ v' w', Has w' S e size v' m news → w.grownBy w' none → (∀ k, v'.ownBlock = some k → k = w.heap.size) → wpList P ops Q rest (a.put o.dst v') w') : wpList P ops Q (o :: rest) a w :=
  wpList_plain hgd fun _ hK => wp_append_fresh w s x t ho S e i z size bytes ht hi hz hsize hby hzs hs a0 m c news hx hl ha hnews h1 h63 hbytes hS fun v' w' h2 h3 h4 => hK _ _ (h v' w' h2 h3 h4)
theorem step_append_fresh {ops : Array Oper} {o : Oper} {a : Act} {K : Act → World → Prop} {Q : Exit → Act → World → Prop} {E : Prop} (hgd : o.guard = none) (s x : Operand) (t : TypeId)
    (ho : o.op = .call { callee := .builtin .append, args := #[s, x], argTypes := #[t, t] })
    (S : Nat → Prop) (e : TypeId) (i : TypeInfo) (z : Value) (size bytes : Nat) (ht : P.underlying t = some (.slice e)) (hi : P.info? e = some i) (hz : i.zero = some z)
    (hsize : i.size = size) (hby : i.bytes = bytes) (hzs : z.cells.size = size) (hs : a.eval s = .slice none 0 0) (a0 : Option Addr) (m c : Nat) (news : List Value) (hx : a.eval x = .slice a0 m c) (hl : news.length = m * size) (ha : a0 = none → m = 0) (hnews : ∀ ad, a0 = some ad → ∀ j u, news[j]? = some u → w.cell? (ad.add j) = some u)
    (h1 : ∀ u ∈ news, u.oneCell' = true) (h63 : m ≤ maxLen) (hbytes : (m + m / 4 + 192) * bytes ≤ 281474976710656) (hS : S w.heap.size)
    (h : ∀ v' w', Has w' S e size v' m news → w.grownBy w' none → (∀ k, v'.ownBlock = some k → k = w.heap.size) → K (a.put o.dst v') w') :
    if Region.wanted o (yielded ops a.tmps) = true then Oper.wp P o a w K Q else E := by
  have hw : Region.wanted o (yielded ops a.tmps) = true := by simp [Region.wanted, hgd]
  rw [if_pos hw]
  exact wp_append_fresh w s x t ho S e i z size bytes ht hi hz hsize hby hzs hs a0 m c news hx hl ha hnews h1 h63 hbytes hS h
end
theorem MvAt.news {W : World} {ad : Addr} {n : Nat} {ms : List Mv} (h : MvAt W (some ad) n ms) : ∀ j u, (mvc ms)[j]? = some u → W.cell? (ad.add j) = some u := by
  intro j u hu
  have hj : j < ms.length * 4 := by have := (List.getElem?_eq_some_iff.1 hu).1; rw [mvc_length] at this; exact this
  rcases h.2 with h0 | ⟨b, off, h1, hb, hc⟩
  · rw [h0] at hj; simp at hj
  · cases h1
    have hadd : ∀ j, (⟨b, off, none⟩ : Addr).add j = ⟨b, off + j, none⟩ := fun j => by unfold Addr.add; split <;> simp_all
    obtain ⟨q, r, rfl, hr⟩ : ∃ q r, j = q * 4 + r ∧ r < 4 := ⟨j / 4, j % 4, by omega, by omega⟩
    have hq : q < ms.length := by omega
    rw [mvc_get ms q r _ (List.getElem?_eq_getElem hq) hr] at hu
    obtain ⟨c0, c1, c2, c3⟩ := hc q hq
    have e : ms[q]?.getD noMv = ms[q] := by simp [hq]
    rw [e] at c0 c1 c2 c3
    rw [hadd]
    rcases r with _ | _ | _ | _ | r
    · simp only [Mv.cells, List.getElem?_cons_zero, Option.some.injEq] at hu; rw [← hu]; exact c0
    · simp only [Mv.cells, List.getElem?_cons_succ, List.getElem?_cons_zero, Option.some.injEq] at hu; rw [← hu]; exact c1
    · simp only [Mv.cells, List.getElem?_cons_succ, List.getElem?_cons_zero, Option.some.injEq] at hu; rw [← hu]; exact c2
    · simp only [Mv.cells, List.getElem?_cons_succ, List.getElem?_cons_zero, Option.some.injEq] at hu; rw [← hu]; exact c3
    · omega
theorem newsAt (w : World) (l : List Value) (vs : Array Value) (t : TypeId) (g : Nat) (hg : g = w.heap.size) (hv : vs = l.toArray) : ∀ j v, l[j]? = some v → (w.alloc (.cells vs t)).cell? ((⟨g, 0, none⟩ : Addr).add j) = some v := by
  intro j v hj
  subst hg
  subst hv
  rw [add1, Nat.zero_add, cell_blk (new_at _ _ _ rfl)]
  simpa using hj
def tw (k : Nat) : Mv := ⟨900 + (k : Int), 901, 902, 903⟩
def twl (ms : List Mv) (k : Nat) : List Mv := ms ++ (List.range k).map tw
theorem twl_zero (ms : List Mv) : twl ms 0 = ms := by simp [twl]
theorem twl_succ (ms : List Mv) (k : Nat) : mvc (twl ms (k + 1)) = mvc (twl ms k) ++ [.int .i64 (900 + (k : Int)), .int .i64 901, .int .i64 902, .int .i64 903] := by
  have : twl ms (k + 1) = twl ms k ++ [tw k] := by simp [twl, List.range_succ]
  rw [this, mvc_append]
  rfl
theorem twl_length (ms : List Mv) (k : Nat) : (twl ms k).length = ms.length + k := by simp [twl]
theorem twl_old (ms : List Mv) (k i : Nat) (h : i < ms.length) : (twl ms k)[i]? = ms[i]? := by simp [twl, List.getElem?_append, h]
theorem twl_new (ms : List Mv) (k i : Nat) (h : i < k) : (twl ms k)[ms.length + i]? = some (tw i) := by
  rw [twl, List.getElem?_append_right (Nat.le_add_right _ _), Nat.add_sub_cancel_left]
  simp [h]
theorem MvAt.none' {W : World} {a : Option Addr} {n : Nat} {ms : List Mv} (h : MvAt W a n ms) : (a = none → n = 0) ∧ ∀ ad, a = some ad → ∀ j u, (mvc ms)[j]? = some u → W.cell? (ad.add j) = some u := by
  refine ⟨fun ha => ?_, fun ad ha => ?_⟩
  · rcases h.2 with h0 | ⟨b, off, hb, _⟩
    · rw [h.1, h0]; rfl
    · rw [ha] at hb; cases hb
  · subst ha; exact h.news
set_option maxRecDepth 100000 in
set_option maxHeartbeats 4000000 in
theorem Twin_any (w : World) (am : Option Addr) (nm cm : Nat) (ms : List Mv) (hm : MvAt w am nm ms) (hz : nm * 32 ≤ 140737488351232) :
    Calls Tryz.prog 5 #[.slice am nm cm] w fun e w' => ∃ g cap, e = .returned (.tuple #[.slice (some ⟨g, 0, none⟩) nm cap, .slice (some ⟨g, 0, none⟩) (nm + 9) cap]) ∧ Has w' (fun k => w.heap.size ≤ k) 42 4 (.slice (some ⟨g, 0, none⟩) (nm + 9) cap) (nm + 9) (mvc (twl ms 9)) ∧ Below w.heap.size w w' := by
  obtain ⟨i1, p1, p2, p3, p4⟩ := info_m
  have hl : (mvc ms).length = nm * 4 := by rw [mvc_length, hm.1]
  obtain ⟨ha, hc⟩ := MvAt.none' hm
  have o1 := mvc_one ms
  replace hc := Mr.hid hc
  replace o1 := Mr.hid o1
  replace hm := Mr.hid hm
  replace hl := Mr.hid hl
  replace ha := Mr.hid ha
  go_enter Tryz.func5, Tryz.ntmps5
  go_wp2_with (first
    | (at_builtin; refine wpList_append_fresh _ rfl (.const (.slice none 0 0)) (.tmp 6) 24 rfl (fun k => w.heap.size ≤ k) 42 i1 _ 4 32 Tryz.underlying24 p1 p2 p3 p4 rfl rfl am nm cm (mvc ms) (by first | rfl | simp [Act.eval, Act.put]) hl.out ha.out hc.out o1.out (by unfold maxLen; omega) (by omega) (Nat.le_refl _) ?_; intro v0 w1 hv0 hg0 _; have hB1 : Below w.heap.size w w1 := (Below.refl _ _).grown hg0 (Nat.le_refl _) (fun k hk => by cases hk); clear hg0; replace hv0 := Mr.hid hv0; replace hB1 := Mr.hid hB1))
  go_loopg [4, 5] 9 (fun k s4 s5 wr => ∃ i : Nat, s5 = .int .i64 (i : Int) ∧ i + k = 9 ∧ Has wr (fun k => w.heap.size ≤ k) 42 4 s4 (nm + i) (mvc (twl ms i)) ∧ Below w.heap.size w wr)
  case atStart => exact ⟨0, rfl, rfl, by rw [twl_zero]; exact hv0.out, hB1.out⟩
  case round =>
    clear hv0 hB1
    obtain ⟨i, rfl, hik, hv, hB⟩ := hrel
    by_cases hlt : i < 9
    · have d0 : decide ((i : Int) < 9) = true := decide_eq_true (by omega)
      obtain ⟨av, cv, rfl, hcv⟩ := hv.form
      have hss := hB.size
      have lawD := Mr.hid (hv.below (w' := wr.alloc (.cells #[.int .i64 (900 + (i : Int)), .int .i64 901, .int .i64 902, .int .i64 903] 42)) ((Below.refl _ _).alloc (Nat.le_refl _) _))
      have news := Mr.hid (newsAt wr _ #[.int .i64 (900 + (i : Int)), .int .i64 901, .int .i64 902, .int .i64 903] 42 wr.heap.size rfl rfl)
      have FN := fun (w1 : World) (hg : (wr.alloc (.cells #[.int .i64 (900 + (i : Int)), .int .i64 901, .int .i64 902, .int .i64 903] 42)).grownBy w1 (Value.slice av (nm + i) cv).ownBlock) => (show Below w.heap.size w w1 from (hB.alloc hB.size _).grown hg (by simp; omega) (fun k hk => (hv.lt k hk).1))
      replace FN := Mr.hid FN
      replace hv := Mr.hid hv
      replace hB := Mr.hid hB
      go_wp2_with (first
        | (at_builtin; refine wpList_append_has _ rfl (.tmp 12) (.tmp 16) 24 rfl (fun k => w.heap.size ≤ k) 42 i1 _ 4 32 Tryz.underlying24 p1 p2 p3 p4 rfl (.slice av (nm + i) cv) (nm + i) (mvc (twl ms i)) rfl lawD.out ⟨wr.heap.size, 0, none⟩ 1 1 [.int .i64 (900 + (i : Int)), .int .i64 901, .int .i64 902, .int .i64 903] (by first | rfl | simp [Act.eval, Act.put]) rfl news.out (by simp [Value.oneCell']) (by omega) (by unfold maxLen; omega) (by omega) (by simp; omega) ?_; intro g cap' w1 hown hgrow hat; have F1 := Mr.hid (FN.out w1 hgrow); clear FN hgrow hat; rw [← twl_succ] at hown; replace hown := Mr.hid hown))
      go_roundg (gk - 1)
      case measure => omega
      case rel => exact ⟨i + 1, by simp, by omega, hown.out, F1.out⟩
    · have d0 : decide ((i : Int) < 9) = false := decide_eq_false (by omega)
      obtain rfl : i = 9 := by omega
      obtain ⟨g, cap, rfl, hg1, hg2, hcc, hcm⟩ := hv.there (by omega)
      replace hcm : cap ≤ 9223372036854775807 := by unfold maxLen at hcm; omega
      have hle : nm ≤ cap := by omega
      replace hv := Mr.hid hv
      replace hB := Mr.hid hB
      go_wp2
      go_ret2
      exact ⟨g, cap, rfl, hv.out, hB.out⟩
set_option maxRecDepth 100000 in
set_option maxHeartbeats 4000000 in
theorem Whole_any {w : World} {S : Nat → Prop} {am : Option Addr} {nm cm g cap : Nat} {ms : List Mv} (hm : MvAt w am nm ms) (hv : Has w S 42 4 (.slice (some ⟨g, 0, none⟩) (nm + 9) cap) (nm + 9) (mvc (twl ms 9))) (hz : nm * 32 ≤ 140737488351232) :
    Calls Tryz.prog 8 #[.slice am nm cm, .slice (some ⟨g, 0, none⟩) (nm + 9) cap] w fun e w' => e = .returned (.bool true) ∧ Below w.heap.size w w' := by
  have hl := hm.1
  have hgl := (hv.lt g rfl).2
  have hce : ∀ (w' : World), Below w.heap.size w w' → ∀ (i : Nat) (x : Mv), (twl ms 9)[i]? = some x → w'.cell? ⟨g, i * 4, none⟩ = some (.int .i64 x.th) ∧ w'.cell? ⟨g, i * 4 + 1, none⟩ = some (.int .i64 x.op) ∧ w'.cell? ⟨g, i * 4 + 2, none⟩ = some (.int .i64 x.arg) ∧ w'.cell? ⟨g, i * 4 + 3, none⟩ = some (.int .i64 x.data) := fun w' hB i x hx => by
    have hc : ∀ (p : Nat) (u : Value), p < 4 → x.cells[p]? = some u → w'.cell? ⟨g, i * 4 + p, none⟩ = some u := fun p u hp hu => (hB.cell (p := ⟨g, i * 4 + p, none⟩) hgl).trans (hv.cells (g := g) rfl _ _ (by rw [mvc_get _ _ _ x hx hp]; exact hu))
    have e0 := hc 0 _ (by decide) rfl
    rw [Nat.add_zero] at e0
    exact ⟨e0, hc 1 _ (by decide) rfl, hc 2 _ (by decide) rfl, hc 3 _ (by decide) rfl⟩
  have hmc : ∀ (w' : World), Below w.heap.size w w' → ∀ (i : Nat) (x : Mv), ms[i]? = some x → ∃ bo oo, am = some ⟨bo, oo, none⟩ ∧ w'.cell? ⟨bo, oo + i * 4, none⟩ = some (.int .i64 x.th) ∧ w'.cell? ⟨bo, oo + i * 4 + 1, none⟩ = some (.int .i64 x.op) ∧ w'.cell? ⟨bo, oo + i * 4 + 2, none⟩ = some (.int .i64 x.arg) ∧ w'.cell? ⟨bo, oo + i * 4 + 3, none⟩ = some (.int .i64 x.data) := fun w' hB i x hx => by
    have hi := (List.getElem?_eq_some_iff.1 hx).1
    rcases (hm.below hB).2 with h0 | ⟨bo, oo, rfl, _, hc⟩
    · rw [h0] at hi; simp at hi
    · have := hc i hi
      rw [hx] at this
      exact ⟨bo, oo, rfl, this⟩
  replace hce := Mr.hid hce
  replace hmc := Mr.hid hmc
  replace hm := Mr.hid hm
  replace hv := Mr.hid hv
  go_enter Tryz.func8, Tryz.ntmps8
  go_wp2
  go_loopg [5] nm (fun k s wr => ∃ i : Nat, s = .int .i64 (i : Int) ∧ i + k = nm ∧ Below w.heap.size w wr)
  case atStart => exact ⟨0, rfl, by omega, Below.refl _ _⟩
  case round =>
    obtain ⟨i, rfl, hi, B⟩ := hrel
    by_cases hlt : i < nm
    · have d0 : decide ((i : Int) < (nm : Int)) = true := decide_eq_true (by omega)
      obtain ⟨x, hx⟩ : ∃ x, ms[i]? = some x := ⟨_, List.getElem?_eq_getElem (by omega)⟩
      obtain ⟨bo, oo, rfl, c0, c1, c2, c3⟩ := hmc.out wr B i x hx
      obtain ⟨e0, e1, e2, e3⟩ := hce.out wr B i x ((twl_old ms 9 i (by omega)).trans hx)
      clear hx
      replace hl := Mr.hid hl
      have hB := Mr.hid B
      clear B
      go_wp2
      go_region
      all_goals go_wp2
      all_goals go_roundg (gk - 1)
      case measure => omega
      case rel => exact ⟨i + 1, by simp, by omega, hB.out.drew⟩
    · have d0 : decide ((i : Int) < (nm : Int)) = false := decide_eq_false (by omega)
      replace hl := Mr.hid hl
      have hB := Mr.hid B
      clear B
      go_wp2
      go_loopg [6] 9 (fun k s wy => ∃ j : Nat, s = .int .i64 (j : Int) ∧ j + k = 9 ∧ Below w.heap.size w wy)
      case atStart => exact ⟨0, rfl, rfl, hB.out⟩
      case round =>
        clear hB
        obtain ⟨j, rfl, hj, B⟩ := hrel
        by_cases hjt : j < 9
        · have d1 : decide ((j : Int) < 9) = true := decide_eq_true (by omega)
          obtain ⟨e0, e1, e2, e3⟩ := hce.out wr B (nm + j) (tw j) (by rw [hl.out]; exact twl_new ms 9 j hjt)
          simp only [tw] at e0 e1 e2 e3
          have hB := Mr.hid B
          clear B
          go_wp2
          go_roundg (gk - 1)
          case measure => omega
          case rel => exact ⟨j + 1, by simp, by omega, hB.out⟩
        · have d1 : decide ((j : Int) < 9) = false := decide_eq_false (by omega)
          have hB := Mr.hid B
          clear B
          go_wp2
          go_ret
          exact ⟨rfl, hB.out⟩
end Go.Proofs.YtcomelbphdjnnaaGreatDoor.Sc
