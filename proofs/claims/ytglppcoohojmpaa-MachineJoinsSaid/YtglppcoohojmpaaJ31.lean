import Derived.Test.YtglppcoohojmpaaJ30
import Derived.BigQuiet
/-
  ROWS of moves (for the seats without MacKp2).
-/
namespace Go.Proofs.Ytglppcoohojmpaa.Ma
open Go.RowKit Go.Shelf Mr Me
def Mv.cells (m : Mv) : List Value := [.int .i64 m.th, .int .i64 m.op, .int .i64 m.arg, .int .i64 m.data]
def mvc (ms : List Mv) : List Value := ms.flatMap Mv.cells
theorem mv_len (m : Mv) : m.cells.length = 4 := rfl
theorem mvc_length (ms : List Mv) : (mvc ms).length = ms.length * 4 := flat_length mv_len ms
theorem mvc_append (l k : List Mv) : mvc (l ++ k) = mvc l ++ mvc k := by simp [mvc]
theorem mvc_one (ms : List Mv) : ∀ u ∈ mvc ms, u.oneCell' = true := by
  intro u hu
  simp only [mvc, List.mem_flatMap] at hu
  obtain ⟨m, _, hm⟩ := hu
  simp only [Mv.cells, List.mem_cons, List.not_mem_nil, or_false] at hm
  rcases hm with rfl | rfl | rfl | rfl <;> rfl
theorem info_move : (Try.prog.info? 46).map (fun i => (i.zero, i.size, i.bytes)) = some (some (.agg #[.int .i64 0, .int .i64 0, .int .i64 0, .int .i64 0]), 4, 32) := by kernel_rfl
theorem MvAt.news {W : World} {ad : Addr} {n : Nat} {ms : List Mv} (h : MvAt W (some ad) n ms) : ∀ j u, (mvc ms)[j]? = some u → W.cell? (ad.add j) = some u := by
  intro j u hu
  have hj : j < ms.length * 4 := by have := (List.getElem?_eq_some_iff.1 hu).1; rw [mvc_length] at this; exact this
  rcases h.2 with h0 | ⟨b, off, h1, hb, hc⟩
  · rw [h0] at hj; simp at hj
  · cases h1
    have hadd : ∀ j, (⟨b, off, none⟩ : Addr).add j = ⟨b, off + j, none⟩ := fun j => by unfold Addr.add; split <;> simp_all
    obtain ⟨q, r, rfl, hr⟩ : ∃ q r, j = q * 4 + r ∧ r < 4 := ⟨j / 4, j % 4, by omega, by omega⟩
    have hq : q < ms.length := by omega
    rw [mvc, flat_get mv_len ms q r _ (List.getElem?_eq_getElem hq) hr] at hu
    obtain ⟨c0, c1, c2, c3⟩ := hc q hq
    have e : ms[q]?.getD noMv = ms[q] := by simp [hq]
    rw [e] at c0 c1 c2 c3
    rw [hadd]
    rcases r with _ | _ | _ | _ | r
    · simp only [Mv.cells, List.getElem?_cons_zero, Option.some.injEq] at hu; rw [← hu]; exact c0
    · simp only [Mv.cells, List.getElem?_cons_succ, List.getElem?_cons_zero, Option.some.injEq] at hu; rw [← hu]; exact c1
    · simp only [Mv.cells, List.getElem?_cons_succ, List.getElem?_cons_zero, Option.some.injEq] at hu; rw [← hu]; exact c2
    · simp only [Mv.cells, List.getElem?_cons_succ, List.getElem?_cons_zero, Option.some.injEq] at hu; rw [← hu]; exact c3
    · omega
theorem has_mvat {W : World} {S : Nat → Prop} {a : Option Addr} {n cap : Nat} {ms : List Mv} (h : Has W S 46 4 (.slice a n cap) n (mvc ms)) : MvAt W a n ms := by
  have hl := h.1
  rw [mvc_length] at hl
  have hn : n = ms.length := by omega
  refine ⟨hn, ?_⟩
  by_cases h0 : ms.length = 0
  · exact .inl (List.eq_nil_of_length_eq_zero h0)
  · obtain ⟨g, cap', hg, _, hgl, _⟩ := h.there (by omega)
    cases hg
    refine .inr ⟨g, 0, rfl, hgl, fun j hj => ?_⟩
    have e : ms[j]?.getD noMv = ms[j] := by simp [hj]
    have hce : ∀ t (_ : t < 4) u, (ms[j]).cells[t]? = some u → W.cell? ⟨g, j * 4 + t, none⟩ = some u := fun t ht u hu => h.cells (g := g) rfl (j * 4 + t) u (by rw [mvc, flat_get mv_len ms j t _ (List.getElem?_eq_getElem hj) ht]; exact hu)
    rw [e, Nat.zero_add]
    exact ⟨hce 0 (by decide) _ rfl, hce 1 (by decide) _ rfl, hce 2 (by decide) _ rfl, hce 3 (by decide) _ rfl⟩
end Go.Proofs.Ytglppcoohojmpaa.Ma
/-
  THE DOCUMENT's Twin and Whole: moves in new memory with marks behind them.
-/
namespace Go.Proofs.Ytglppcoohojmpaa.Rf
open Go.RowKit Mr Me Ma
def tw (k : Nat) : Mv := ⟨900 + (k : Int), 901, 902, 903⟩
def twl (ms : List Mv) (k : Nat) : List Mv := ms ++ (List.range k).map tw
theorem twl_zero (ms : List Mv) : twl ms 0 = ms := by simp [twl]
theorem twl_succ (ms : List Mv) (k : Nat) : mvc (twl ms (k + 1)) = mvc (twl ms k) ++ [.int .i64 (900 + (k : Int)), .int .i64 901, .int .i64 902, .int .i64 903] := by
  have : twl ms (k + 1) = twl ms k ++ [tw k] := by simp [twl, List.range_succ]
  rw [this, mvc_append]
  rfl
theorem twl_length (ms : List Mv) (k : Nat) : (twl ms k).length = ms.length + k := by simp [twl]
theorem twl_old (ms : List Mv) (k i : Nat) (h : i < ms.length) : (twl ms k)[i]? = ms[i]? := by simp [twl, List.getElem?_append, h]
theorem twl_new (ms : List Mv) (k i : Nat) (h : i < k) : (twl ms k)[ms.length + i]? = some (tw i) := by
  rw [twl, List.getElem?_append_right (Nat.le_add_right _ _), Nat.add_sub_cancel_left]
  simp [h]
theorem MvAt.none' {W : World} {a : Option Addr} {n : Nat} {ms : List Mv} (h : MvAt W a n ms) : (a = none → n = 0) ∧ ∀ ad, a = some ad → ∀ j u, (mvc ms)[j]? = some u → W.cell? (ad.add j) = some u := by
  refine ⟨fun ha => ?_, fun ad ha => ?_⟩
  · rcases h.2 with h0 | ⟨b, off, hb, _⟩
    · rw [h.1, h0]; rfl
    · rw [ha] at hb; cases hb
  · subst ha; exact h.news
set_option maxRecDepth 100000 in
set_option maxHeartbeats 4000000 in
theorem Twin_any (w : World) (am : Option Addr) (nm cm : Nat) (ms : List Mv) (hm : MvAt w am nm ms) (hz : nm * 32 ≤ 140737488351232) :
    Calls Try.prog 20 #[.slice am nm cm] w fun e w' => ∃ g cap, e = .returned (.tuple #[.slice (some ⟨g, 0, none⟩) nm cap, .slice (some ⟨g, 0, none⟩) (nm + 9) cap]) ∧ Has w' (fun k => w.heap.size ≤ k) 46 4 (.slice (some ⟨g, 0, none⟩) (nm + 9) cap) (nm + 9) (mvc (twl ms 9)) ∧ Below w.heap.size w w' := by
  obtain ⟨i1, p1, p2, p3, p4⟩ := info_parts info_move
  have hl : (mvc ms).length = nm * 4 := by rw [mvc_length, hm.1]
  obtain ⟨ha, hc⟩ := MvAt.none' hm
  have o1 := mvc_one ms
  replace hc := Mr.hid hc
  replace o1 := Mr.hid o1
  replace hm := Mr.hid hm
  replace hl := Mr.hid hl
  replace ha := Mr.hid ha
  go_enter Try.func20, Try.ntmps20
  go_wp2_with (first
    | (at_builtin; refine wpList_append_fresh _ rfl (.const (.slice none 0 0)) (.tmp 6) 23 rfl (fun k => w.heap.size ≤ k) 46 i1 _ 4 32 Try.underlying23 p1 p2 p3 p4 rfl rfl am nm cm (mvc ms) (by first | rfl | simp [Act.eval, Act.put]) hl.out ha.out hc.out o1.out (by unfold maxLen; omega) (by omega) (Nat.le_refl _) ?_; intro v0 w1 hv0 hg0 _; have hB1 : Below w.heap.size w w1 := (Below.refl _ _).grown hg0 (Nat.le_refl _) (fun k hk => by cases hk); clear hg0; replace hv0 := Mr.hid hv0; replace hB1 := Mr.hid hB1))
  go_loopg [4, 5] 9 (fun k s4 s5 wr => ∃ i : Nat, s5 = .int .i64 (i : Int) ∧ i + k = 9 ∧ Has wr (fun k => w.heap.size ≤ k) 46 4 s4 (nm + i) (mvc (twl ms i)) ∧ Below w.heap.size w wr)
  case atStart => exact ⟨0, rfl, rfl, by rw [twl_zero]; exact hv0.out, hB1.out⟩
  case round =>
    clear hv0 hB1
    obtain ⟨i, rfl, hik, hv, hB⟩ := hrel
    by_cases hlt : i < 9
    · have d0 : decide ((i : Int) < 9) = true := decide_eq_true (by omega)
      obtain ⟨av, cv, rfl, hcv⟩ := hv.form
      have hss := hB.size
      have lawD := Mr.hid (hv.below (w' := wr.alloc (.cells #[.int .i64 (900 + (i : Int)), .int .i64 901, .int .i64 902, .int .i64 903] 46)) ((Below.refl _ _).alloc (Nat.le_refl _) _))
      have news := Mr.hid (newsAt wr _ #[.int .i64 (900 + (i : Int)), .int .i64 901, .int .i64 902, .int .i64 903] 46 wr.heap.size rfl rfl)
      have FN := fun (w1 : World) (hg : (wr.alloc (.cells #[.int .i64 (900 + (i : Int)), .int .i64 901, .int .i64 902, .int .i64 903] 46)).grownBy w1 (Value.slice av (nm + i) cv).ownBlock) => (show Below w.heap.size w w1 from (hB.alloc hB.size _).grown hg (by simp; omega) (fun k hk => (hv.lt k hk).1))
      replace FN := Mr.hid FN
      replace hv := Mr.hid hv
      replace hB := Mr.hid hB
      go_wp2_with (first
        | (at_builtin; refine wpList_append_has _ rfl (.tmp 12) (.tmp 16) 23 rfl (fun k => w.heap.size ≤ k) 46 i1 _ 4 32 Try.underlying23 p1 p2 p3 p4 rfl (.slice av (nm + i) cv) (nm + i) (mvc (twl ms i)) rfl lawD.out ⟨wr.heap.size, 0, none⟩ 1 1 [.int .i64 (900 + (i : Int)), .int .i64 901, .int .i64 902, .int .i64 903] (by first | rfl | simp [Act.eval, Act.put]) rfl news.out (by simp [Value.oneCell']) (by omega) (by unfold maxLen; omega) (by omega) (by simp; omega) ?_; intro g cap' w1 hown hgrow hat; have F1 := Mr.hid (FN.out w1 hgrow); clear FN hgrow hat; rw [← twl_succ] at hown; replace hown := Mr.hid hown))
      go_roundg (gk - 1)
      case measure => omega
      case rel => exact ⟨i + 1, by simp, by omega, hown.out, F1.out⟩
    · have d0 : decide ((i : Int) < 9) = false := decide_eq_false (by omega)
      obtain rfl : i = 9 := by omega
      obtain ⟨g, cap, rfl, hg1, hg2, hcc, hcm⟩ := hv.there (by omega)
      replace hcm : cap ≤ 9223372036854775807 := by unfold maxLen at hcm; omega
      have hle : nm ≤ cap := by omega
      replace hv := Mr.hid hv
      replace hB := Mr.hid hB
      go_wp2
      go_ret2
      exact ⟨g, cap, rfl, hv.out, hB.out⟩
end Go.Proofs.Ytglppcoohojmpaa.Rf
/-
  THE DOCUMENT's Whole.
-/
namespace Go.Proofs.Ytglppcoohojmpaa.Rf
open Go.RowKit Mr Me Ma
set_option maxRecDepth 100000 in
set_option maxHeartbeats 4000000 in
theorem Whole_any {w : World} {S : Nat → Prop} {am : Option Addr} {nm cm g cap : Nat} {ms : List Mv} (hm : MvAt w am nm ms) (hv : Has w S 46 4 (.slice (some ⟨g, 0, none⟩) (nm + 9) cap) (nm + 9) (mvc (twl ms 9))) (hz : nm * 32 ≤ 140737488351232) :
    Calls Try.prog 23 #[.slice am nm cm, .slice (some ⟨g, 0, none⟩) (nm + 9) cap] w fun e w' => e = .returned (.bool true) ∧ Below w.heap.size w w' := by
  have hl := hm.1
  have hgl := (hv.lt g rfl).2
  have hce : ∀ (w' : World), Below w.heap.size w w' → ∀ (i : Nat) (x : Mv), (twl ms 9)[i]? = some x → w'.cell? ⟨g, i * 4, none⟩ = some (.int .i64 x.th) ∧ w'.cell? ⟨g, i * 4 + 1, none⟩ = some (.int .i64 x.op) ∧ w'.cell? ⟨g, i * 4 + 2, none⟩ = some (.int .i64 x.arg) ∧ w'.cell? ⟨g, i * 4 + 3, none⟩ = some (.int .i64 x.data) := fun w' hB i x hx => by
    have hc : ∀ (p : Nat) (u : Value), p < 4 → x.cells[p]? = some u → w'.cell? ⟨g, i * 4 + p, none⟩ = some u := fun p u hp hu => (hB.cell (p := ⟨g, i * 4 + p, none⟩) hgl).trans (hv.cells (g := g) rfl _ _ (by rw [mvc, flat_get mv_len _ _ _ x hx hp]; exact hu))
    have e0 := hc 0 _ (by decide) rfl
    rw [Nat.add_zero] at e0
    exact ⟨e0, hc 1 _ (by decide) rfl, hc 2 _ (by decide) rfl, hc 3 _ (by decide) rfl⟩
  have hmc : ∀ (w' : World), Below w.heap.size w w' → ∀ (i : Nat) (x : Mv), ms[i]? = some x → ∃ bo oo, am = some ⟨bo, oo, none⟩ ∧ w'.cell? ⟨bo, oo + i * 4, none⟩ = some (.int .i64 x.th) ∧ w'.cell? ⟨bo, oo + i * 4 + 1, none⟩ = some (.int .i64 x.op) ∧ w'.cell? ⟨bo, oo + i * 4 + 2, none⟩ = some (.int .i64 x.arg) ∧ w'.cell? ⟨bo, oo + i * 4 + 3, none⟩ = some (.int .i64 x.data) := fun w' hB i x hx => by
    have hi := (List.getElem?_eq_some_iff.1 hx).1
    rcases (hm.below hB).2 with h0 | ⟨bo, oo, rfl, _, hc⟩
    · rw [h0] at hi; simp at hi
    · have := hc i hi
      rw [hx] at this
      exact ⟨bo, oo, rfl, this⟩
  replace hce := Mr.hid hce
  replace hmc := Mr.hid hmc
  replace hm := Mr.hid hm
  replace hv := Mr.hid hv
  go_enter Try.func23, Try.ntmps23
  go_wp2
  go_loopg [5] nm (fun k s wr => ∃ i : Nat, s = .int .i64 (i : Int) ∧ i + k = nm ∧ Below w.heap.size w wr)
  case atStart => exact ⟨0, rfl, by omega, Below.refl _ _⟩
  case round =>
    obtain ⟨i, rfl, hi, B⟩ := hrel
    by_cases hlt : i < nm
    · have d0 : decide ((i : Int) < (nm : Int)) = true := decide_eq_true (by omega)
      obtain ⟨x, hx⟩ : ∃ x, ms[i]? = some x := ⟨_, List.getElem?_eq_getElem (by omega)⟩
      obtain ⟨bo, oo, rfl, c0, c1, c2, c3⟩ := hmc.out wr B i x hx
      obtain ⟨e0, e1, e2, e3⟩ := hce.out wr B i x ((twl_old ms 9 i (by omega)).trans hx)
      clear hx
      replace hl := Mr.hid hl
      have hB := Mr.hid B
      clear B
      go_wp2
      go_region
      all_goals go_wp2
      all_goals go_roundg (gk - 1)
      case measure => omega
      case rel => exact ⟨i + 1, by simp, by omega, hB.out.drew⟩
    · have d0 : decide ((i : Int) < (nm : Int)) = false := decide_eq_false (by omega)
      replace hl := Mr.hid hl
      have hB := Mr.hid B
      clear B
      go_wp2
      go_loopg [6] 9 (fun k s wy => ∃ j : Nat, s = .int .i64 (j : Int) ∧ j + k = 9 ∧ Below w.heap.size w wy)
      case atStart => exact ⟨0, rfl, rfl, hB.out⟩
      case round =>
        clear hB
        obtain ⟨j, rfl, hj, B⟩ := hrel
        by_cases hjt : j < 9
        · have d1 : decide ((j : Int) < 9) = true := decide_eq_true (by omega)
          obtain ⟨e0, e1, e2, e3⟩ := hce.out wr B (nm + j) (tw j) (by rw [hl.out]; exact twl_new ms 9 j hjt)
          simp only [tw] at e0 e1 e2 e3
          have hB := Mr.hid B
          clear B
          go_wp2
          go_roundg (gk - 1)
          case measure => omega
          case rel => exact ⟨j + 1, by simp, by omega, hB.out⟩
        · have d1 : decide ((j : Int) < 9) = false := decide_eq_false (by omega)
          have hB := Mr.hid B
          clear B
          go_wp2
          go_ret
          exact ⟨rfl, hB.out⟩
end Go.Proofs.Ytglppcoohojmpaa.Rf
