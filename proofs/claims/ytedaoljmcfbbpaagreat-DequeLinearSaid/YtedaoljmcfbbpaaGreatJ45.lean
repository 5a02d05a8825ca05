import Derived.Test.YtedaoljmcfbbpaaGreatJ37
import Derived.Test.YtedaoljmcfbbpaaGreatJ41
import Derived.Test.YtedaoljmcfbbpaaGreatJ42
import Derived.Test.YtedaoljmcfbbpaaGreatJ43
import Derived.Test.YtedaoljmcfbbpaaGreatJ44
/-
  DEQUE: sameInts, of equal rows (out of DqSame).
-/
namespace Go.Proofs.YtedaoljmcfbbpaaGreat.Dq
open Go.RowKit Mr
set_option linter.unusedVariables false
set_option linter.unusedSimpArgs false
set_option maxRecDepth 100000
set_option maxHeartbeats 8000000 in
theorem sameInts_eq (xs : List Int) (a a' : Option Addr) (n c c' : Nat) (w : World) (h1 : IsAt w a n xs) (h2 : IsAt w a' n xs) (hn : n ≤ 1000000000000000000) :
    Calls Tryz.prog 12 #[.slice a n c, .slice a' n c'] w fun e w' => e = .returned (.bool true) ∧ Below w.heap.size w w' := by
  have z : ((n : Int) != (n : Int)) = false := by simp
  have hl := Mr.hid h1.1
  replace h1 := Mr.hid h1
  replace h2 := Mr.hid h2
  go_enter Tryz.func12, Tryz.ntmps12
  go_upto_region 4 with fail
  go_loopg [5] n (fun gk s5 wr => ∃ i : Nat, s5 = .int .i64 (i : Int) ∧ i + gk = n ∧ Below w.heap.size w wr)
  case atStart => exact ⟨0, rfl, by omega, Below.refl _ _⟩
  case round =>
    obtain ⟨i, rfl, hi, B⟩ := hrel
    by_cases hlt : i < n
    · have hli : i < xs.length := by have := hl.out; omega
      obtain ⟨x, hx⟩ : ∃ x, xs[i]? = some x := ⟨xs[i], List.getElem?_eq_getElem hli⟩
      have hne : xs ≠ [] := by intro e; rw [e] at hli; simp at hli
      obtain ⟨g, o, rfl, hg, hc⟩ := (h1.out.below B).2.resolve_left hne
      obtain ⟨g', o', rfl, hg', hc'⟩ := (h2.out.below B).2.resolve_left hne
      have c0 := hc i x hx
      have c0' := hc' i x hx
      have hlI : (i : Int) < (n : Int) := by omega
      have dl : decide ((i : Int) < (n : Int)) = true := by simpa using hlI
      have hw : IntKind.i64.wrap ((i : Int) + 1) = (i : Int) + 1 := i64x _ (by omega) (by omega)
      have hi' := Mr.hid hi
      replace B := Mr.hid B
      clear hc hc' hx hli hi hne
      go_upto_region 6 with fail
      go_quiet (fail)
      replace B := Mr.hid (B.out.trans ⟨rfl, rfl, rfl, Nat.le_refl _, fun _ _ => rfl⟩ : Below w.heap.size w (wr.drewN nq))
      clear c0 c0' hg hg'
      generalize wr.drewN nq = w6 at *
      go_wp2
      go_roundg (gk - 1)
      case measure => have := hi'.out; omega
      case rel => exact ⟨i + 1, by simp, by have := hi'.out; omega, B.out⟩
    · have dl : decide ((i : Int) < (n : Int)) = false := decide_eq_false (by omega)
      have dl2 : ¬ (i : Int) < (n : Int) := by omega
      replace B := Mr.hid B
      clear hi hlt
      go_wp2
      go_ret
      exact ⟨rfl, B.out⟩
end Go.Proofs.YtedaoljmcfbbpaaGreat.Dq
/-
  DequeLinear: what lies in the world; the law's own order; what the calls leave.
-/
namespace Go.Proofs.YtedaoljmcfbbpaaGreat.Dm
open Go.RowKit Go.Shelf Mr Me Ma Gm Dq
set_option linter.unusedVariables false
set_option linter.unusedSimpArgs false
set_option maxRecDepth 100000
def runL (v1 v2 v3 v4 : Value) : Obj := .cells #[v1, v2, v3, v4] 32 (0, 0)
structure Gl (w W : World) (nt r B : Nat) (p1 p2 p3 p4 : Option Addr) (n1 q1 n2 q2 n3 q3 n4 q4 : Nat) (cls : List Cl) (ws : List Int) : Prop where
  bel : Below w.heap.size w W
  d : W.heap[w.heap.size]? = some (dBox nt r)
  rn : W.heap[B]? = some (runL (.slice p1 n1 q1) (.slice p2 n2 q2) (.slice p3 n3 q3) (.slice p4 n4 q4))
  h1 : Has W (fun k => w.heap.size ≤ k) 45 9 (.slice p1 n1 q1) cls.length (clc cls)
  h4 : Has W (fun k => w.heap.size ≤ k) 65 1 (.slice p4 n4 q4) ws.length (wrd ws)
  e1 : n1 = cls.length
  e4 : n4 = ws.length
section
variable {w W W' : World} {nt r B : Nat} {p1 p2 p3 p4 : Option Addr} {n1 q1 n2 q2 n3 q3 n4 q4 : Nat} {cls : List Cl} {ws : List Int}
theorem Gl.below (h : Gl w W nt r B p1 p2 p3 p4 n1 q1 n2 q2 n3 q3 n4 q4 cls ws) (hB : Below W.heap.size W W') : Gl w W' nt r B p1 p2 p3 p4 n1 q1 n2 q2 n3 q3 n4 q4 cls ws :=
  ⟨h.bel.trans (hB.mono h.bel.size), (hB.block _ (Array.getElem?_eq_some_iff.1 h.d).1).trans h.d, (hB.block _ (Array.getElem?_eq_some_iff.1 h.rn).1).trans h.rn, h.h1.below hB, h.h4.below hB, h.e1, h.e4⟩
theorem Gl.cells (h : Gl w W nt r B p1 p2 p3 p4 n1 q1 n2 q2 n3 q3 n4 q4 cls ws) : W.cell? ⟨w.heap.size, 0, none⟩ = some (.int .i64 (nt : Int)) ∧ W.cell? ⟨w.heap.size, 1, none⟩ = some (.int .i64 (r : Int)) ∧ W.cell? ⟨B, 0, none⟩ = some (.slice p1 n1 q1) ∧ W.cell? ⟨B, 1, none⟩ = some (.slice p2 n2 q2) ∧ W.cell? ⟨B, 2, none⟩ = some (.slice p3 n3 q3) ∧ W.cell? ⟨B, 3, none⟩ = some (.slice p4 n4 q4) :=
  ⟨cell_at h.d 0, cell_at h.d 1, cell_at h.rn 0, cell_at h.rn 1, cell_at h.rn 2, cell_at h.rn 3⟩
theorem Gl.left (h : Gl w W nt r B p1 p2 p3 p4 n1 q1 n2 q2 n3 q3 n4 q4 cls ws) : Calls Tryz.prog 10 #[.agg #[.int .i64 (nt : Int), .int .i64 (r : Int)], .slice p4 n4 q4] W fun e w' => LfP W w' (lfR (nt : Int) (r : Int) ws) e := by
  have h4 := h.h4
  have e4 := h.e4
  subst e4
  exact Left_any (nt : Int) (r : Int) ws p4 ws.length q4 W (has_wd (xs := ws) h4)
/-- A call's nine cells. -/
theorem Gl.call (h : Gl w W nt r B p1 p2 p3 p4 n1 q1 n2 q2 n3 q3 n4 q4 cls ws) {i : Nat} {x : Cl} (hx : cls[i]? = some x) : ∃ g, p1 = some ⟨g, 0, none⟩ ∧ g < W.heap.size ∧
    W.cell? ⟨g, i * 9, none⟩ = some (.int .i64 x.th) ∧ W.cell? ⟨g, i * 9 + 1, none⟩ = some (.int .i64 x.op) ∧ W.cell? ⟨g, i * 9 + 2, none⟩ = some (.int .i64 x.arg) ∧ W.cell? ⟨g, i * 9 + 3, none⟩ = some (.int .i64 x.data) ∧ W.cell? ⟨g, i * 9 + 4, none⟩ = some (.int .i64 x.beg) ∧ W.cell? ⟨g, i * 9 + 5, none⟩ = some (.int .i64 x.fin) ∧ W.cell? ⟨g, i * 9 + 6, none⟩ = some (.int .i64 x.pt) ∧ W.cell? ⟨g, i * 9 + 7, none⟩ = some (.int .i64 x.ak) ∧ W.cell? ⟨g, i * 9 + 8, none⟩ = some (.int .i64 x.av) := by
  have h1 := h.h1
  have e1 := h.e1
  obtain ⟨g, cap, e, _, hg, _⟩ := h1.there (by have := (List.getElem?_eq_some_iff.1 hx).1; omega)
  cases e
  have hc := h1.cells (g := g) rfl
  exact ⟨g, rfl, hg, hc _ _ (clc_at9 cls i x hx 0 _ rfl (by omega)), hc _ _ (clc_at9 cls i x hx 1 _ rfl (by omega)), hc _ _ (clc_at9 cls i x hx 2 _ rfl (by omega)), hc _ _ (clc_at9 cls i x hx 3 _ rfl (by omega)), hc _ _ (clc_at9 cls i x hx 4 _ rfl (by omega)), hc _ _ (clc_at9 cls i x hx 5 _ rfl (by omega)), hc _ _ (clc_at9 cls i x hx 6 _ rfl (by omega)), hc _ _ (clc_at9 cls i x hx 7 _ rfl (by omega)), hc _ _ (clc_at9 cls i x hx 8 _ rfl (by omega))⟩
end
theorem has_sl {W : World} {S : Nat → Prop} {e : TypeId} {size n c : Nat} {a : Option Addr} {xs : List Value} (h : Has W S e size (.slice a n c) n xs) : Md.Sl W S size (.slice a n c) n xs := by
  refine ⟨h.1, a, c, rfl, ?_, ?_⟩
  · obtain ⟨a', c', e', h9⟩ := h.form
    cases e'; exact h9
  · by_cases h0 : 0 < n
    · obtain ⟨g, c', e', h1, h2, _⟩ := h.there h0
      cases e'
      exact .inr ⟨g, 0, rfl, h1, h2, fun j u hu => by rw [Nat.zero_add]; exact h.cells (g := g) rfl j u hu⟩
    · exact .inl (by omega)
/-- made, of any call that may answer so. -/
theorem made_any {rm : Int} {vs : List Int} {x : Cl} (hn : vs.length ≤ 100000) (hop : x.op = 90 ∨ x.op = 91 ∨ x.op = 92) (hf : x.fin = -1 ∨ 0 ≤ x.fin) (ok : Hd.okA (qq x) (Hd.atO rm vs (qq x)).2 = true) : MdC rm vs x := by
  have hk : ∀ {k v : Int}, (Hd.atO rm vs (qq x)).2 = (k, v) → 0 ≤ x.fin → x.ak = k ∧ x.av = v := fun {k v} e h0 => by
    rw [e] at ok
    unfold Hd.okA at ok
    have e1 : (qq x).fin ≠ -1 := by show x.fin ≠ -1; omega
    rw [decide_eq_false e1, Bool.false_or, Bool.and_eq_true, decide_eq_true_eq, decide_eq_true_eq] at ok
    exact ok
  by_cases h90 : x.op = 90
  · by_cases hr : rm ≤ (vs.length : Int)
    · rcases hf with hf | hf
      · exact made_full_opn rm vs x hn hf h90 hr
      · exact made_full_end rm vs x hn hf h90 hr (hk (by rw [at_f h90 hr]) hf).1
    · rcases hf with hf | hf
      · exact made_push_opn rm vs x hn hf h90 hr
      · exact made_push_end rm vs x hn hf h90 hr (hk (by rw [at_p h90 hr]) hf).1
  · cases vs with
    | nil =>
      rcases hf with hf | hf
      · exact made_empty_opn rm [] x hn hf h90 rfl
      · exact made_empty_end rm [] x hn hf h90 rfl (hk (by rw [at_e rm h90]) hf).1
    | cons u l =>
      by_cases h91 : x.op = 91
      · obtain ⟨C, w, e⟩ : ∃ C w, u :: l = C ++ [w] := ⟨(u :: l).dropLast, (u :: l).getLast (by simp), (List.dropLast_concat_getLast (by simp)).symm⟩
        rw [e] at hn ok hk ⊢
        have hC : C.length ≤ 100000 := by rw [List.length_append] at hn; omega
        rcases hf with hf | hf
        · exact made_take_opn rm C w x hC hf h91
        · have := hk (by rw [at_t rm h91]) hf
          exact made_take_end rm C w x hC hf h91 this.1 this.2
      · have h92 : x.op = 92 := by omega
        have hC : l.length ≤ 100000 := by rw [List.length_cons] at hn; omega
        rcases hf with hf | hf
        · exact made_steal_opn rm u l x hC hf h92
        · have := hk (by rw [at_s rm h92]) hf
          exact made_steal_end rm u l x hC hf h92 this.1 this.2
/-! The law's own order. -/
structure Sd (cls : List Cl) (i : Nat) (o : List Nat) : Prop where
  nd : o.Nodup
  mem : ∀ c, c ∈ o ↔ c < i ∧ ∃ x, cls[c]? = some x ∧ x.pt ≠ -1
  srt : o.Pairwise (fun a b => ltC (atC cls a) (atC cls b))
def ahC (a b : Cl) : Bool := decide (a.pt < b.pt) || (decide (a.pt = b.pt) && decide (a.op = 92))
theorem Sd.zero (cls : List Cl) : Sd cls 0 [] := ⟨List.nodup_nil, fun c => ⟨fun h => (by cases h), fun h => (by omega)⟩, List.Pairwise.nil⟩
theorem Sd.lt {cls : List Cl} {i : Nat} {o : List Nat} (h : Sd cls i o) {c : Nat} (hc : c ∈ o) : c < cls.length := by
  obtain ⟨_, x, hx, _⟩ := (h.mem c).1 hc
  exact (List.getElem?_eq_some_iff.1 hx).1
theorem Sd.skip {cls : List Cl} {i : Nat} {o : List Nat} {x : Cl} (h : Sd cls i o) (hx : cls[i]? = some x) (hp : x.pt = -1) : Sd cls (i + 1) o := by
  refine ⟨h.nd, fun c => ?_, h.srt⟩
  rw [h.mem c]
  refine ⟨fun ⟨h1, h2⟩ => ⟨by omega, h2⟩, fun ⟨h1, y, hy, hq⟩ => ⟨?_, y, hy, hq⟩⟩
  by_cases e : c = i
  · subst e; rw [hx] at hy; cases hy; exact absurd hp hq
  · omega
theorem Sd.ins {cls : List Cl} {i : Nat} {A S : List Nat} {x : Cl} (h : Sd cls i (A ++ S)) (hx : cls[i]? = some x) (hp : x.pt ≠ -1) (hS : ∀ s ∈ S, ltC (atC cls i) (atC cls s)) (hA : A = [] ∨ ∃ A' a, A = A' ++ [a] ∧ ltC (atC cls a) (atC cls i)) : Sd cls (i + 1) (A ++ i :: S) := by
  have hni : i ∉ A ++ S := fun hi => by have := ((h.mem i).1 hi).1; omega
  have hP : (A ++ i :: S).Perm (i :: (A ++ S)) := List.perm_middle
  refine ⟨?_, fun c => ?_, ?_⟩
  · rw [hP.nodup_iff, List.nodup_cons]; exact ⟨hni, h.nd⟩
  · rw [hP.mem_iff, List.mem_cons, h.mem c]
    constructor
    · rintro (rfl | ⟨h1, h2⟩)
      · exact ⟨by omega, x, hx, hp⟩
      · exact ⟨by omega, h2⟩
    · rintro ⟨h1, y, hy, hq⟩
      by_cases e : c = i
      · exact .inl e
      · exact .inr ⟨by omega, y, hy, hq⟩
  · have hs := h.srt
    rw [List.pairwise_append] at hs ⊢
    obtain ⟨p1, p2, p3⟩ := hs
    have hAi : ∀ a ∈ A, ltC (atC cls a) (atC cls i) := fun a ha => by
      rcases hA with rfl | ⟨A', b, rfl, hb⟩
      · cases ha
      · rcases List.mem_append.1 ha with ha | ha
        · rw [List.pairwise_append] at p1
          have := p1.2.2 a ha b (by simp)
          rcases this with h1 | ⟨h1, h2, h3⟩ <;> rcases hb with h4 | ⟨h4, h5, h6⟩
          · exact .inl (by omega)
          · exact .inl (by omega)
          · exact .inl (by omega)
          · omega
        · simp at ha; subst ha; exact hb
    refine ⟨p1, List.pairwise_cons.2 ⟨fun s hs => hS s hs, p2⟩, fun a ha b hb => ?_⟩
    rcases List.mem_cons.1 hb with rfl | hb
    · exact hAi a ha
    · exact p3 a ha b hb
/-- Two that have a point stand one ahead of the other. -/
theorem lb_cmp {cls : List Cl} {ord : List Nat} {n : Int} {nt : Nat} (h : Lb cls ord n nt) {a b : Nat} (ha : a ∈ ord) (hb : b ∈ ord) (hne : a ≠ b) : ltC (atC cls a) (atC cls b) ∨ ltC (atC cls b) (atC cls a) := by
  have key : ∀ l : List Nat, l.Pairwise (fun a b => ltC (atC cls a) (atC cls b)) → a ∈ l → b ∈ l → ltC (atC cls a) (atC cls b) ∨ ltC (atC cls b) (atC cls a) := by
    intro l
    induction l with
    | nil => intro _ h; cases h
    | cons c l ih =>
      intro hp h1 h2
      rw [List.pairwise_cons] at hp
      rcases List.mem_cons.1 h1 with e1 | k1
      · rcases List.mem_cons.1 h2 with e2 | k2
        · exact absurd (e1.trans e2.symm) hne
        · exact .inl (by rw [e1]; exact hp.1 b k2)
      · rcases List.mem_cons.1 h2 with e2 | k2
        · exact .inr (by rw [e2]; exact hp.1 a k1)
        · exact ih hp.2 k1 k2
  exact key ord h.srt ha hb
theorem ah_lt {a b : Cl} (h : ltC a b ∨ ltC b a) : (ahC a b = true → ltC a b) ∧ (ahC a b = false → ltC b a) := by
  unfold ahC
  constructor
  · intro e
    rcases h with h | h
    · exact h
    · rw [Bool.or_eq_true, Bool.and_eq_true, decide_eq_true_eq, decide_eq_true_eq, decide_eq_true_eq] at e
      rcases h with h1 | ⟨h1, h2, h3⟩ <;> rcases e with e | ⟨e1, e2⟩ <;> omega
  · intro e
    rcases h with h | h
    · rw [Bool.or_eq_false_iff, Bool.and_eq_false_iff, decide_eq_false_iff_not, decide_eq_false_iff_not, decide_eq_false_iff_not] at e
      rcases h with h1 | ⟨h1, h2, h3⟩ <;> rcases e with ⟨e1, e2 | e2⟩ <;> first | omega | exact absurd h1 (by omega)
    · exact h
theorem pw_unique {α : Type} {R : α → α → Prop} : ∀ {l k : List α}, l.Perm k → l.Pairwise R → k.Pairwise R → (∀ a b, R a b → R b a → False) → l = k
  | [], k, hp, _, _, _ => (List.nil_perm.1 hp).symm
  | a :: l, [], hp, _, _, _ => by have := hp.length_eq; simp at this
  | a :: l, b :: k, hp, h1, h2, hR => by
      rw [List.pairwise_cons] at h1 h2
      have hab : a = b := by
        have ha : a ∈ b :: k := hp.subset (List.mem_cons_self)
        have hb : b ∈ a :: l := hp.symm.subset (List.mem_cons_self)
        rcases List.mem_cons.1 ha with e | ha
        · exact e
        · rcases List.mem_cons.1 hb with e | hb
          · exact e.symm
          · exact (hR a b (h1.1 b hb) (h2.1 a ha)).elim
      subst hab
      rw [pw_unique (List.Perm.cons_inv hp) h1.2 h2.2 hR]
theorem sd_ord {cls : List Cl} {ord o : List Nat} {n : Int} {nt : Nat} (h : Lb cls ord n nt) (hs : Sd cls cls.length o) : o = ord := by
  refine pw_unique ((List.perm_ext_iff_of_nodup hs.nd h.nd).2 (fun c => ?_)) hs.srt h.srt (fun a b h1 h2 => ?_)
  · rw [hs.mem c, h.mem c]
    exact ⟨fun h => h.2, fun ⟨x, hx, hp⟩ => ⟨(List.getElem?_eq_some_iff.1 hx).1, x, hx, hp⟩⟩
  · rcases h1 with h1 | ⟨h1, h2', h3⟩ <;> rcases h2 with h4 | ⟨h4, h5, h6⟩ <;> omega
theorem exO_len {rm : Int} : ∀ (L : List Cl) {vs vs' : List Int}, exO rm vs L = some vs' → vs'.length ≤ vs.length + L.length
  | [], vs, vs', h => by cases h; simp
  | c :: L, vs, vs', h => by
      have h : (if Hd.okA (qq c) (Hd.atO rm vs (qq c)).2 = true then exO rm (Hd.atO rm vs (qq c)).1 L else none) = some vs' := h
      split at h
      · have := exO_len L h
        have h2 : (Hd.atO rm vs (qq c)).1.length ≤ vs.length + 1 := by
          unfold Hd.atO
          split
          · simp
          · split
            · simp
            · split
              · simp
              · split
                · simp; omega
                · simp; omega
        simp only [List.length_cons]; omega
      · cases h
theorem exO_take {rm : Int} {L : List Cl} {vs vs' : List Int} (h : exO rm vs L = some vs') (i : Nat) : ∃ u, exO rm vs (L.take i) = some u ∧ exO rm u (L.drop i) = some vs' := by
  have e : L = L.take i ++ L.drop i := (List.take_append_drop i L).symm
  rw [e, exO_app] at h
  cases hu : exO rm vs (L.take i) with
  | none => rw [hu] at h; cases h
  | some u => rw [hu] at h; exact ⟨u, rfl, h⟩
theorem exO_step {rm : Int} {L : List Cl} {vs vs' u : List Int} {i : Nat} {x : Cl} (h : exO rm vs L = some vs') (hx : L[i]? = some x) (hu : exO rm vs (L.take i) = some u) : Hd.okA (qq x) (Hd.atO rm u (qq x)).2 = true ∧ exO rm vs (L.take (i + 1)) = some (Hd.atO rm u (qq x)).1 := by
  obtain ⟨u', h1, h2⟩ := exO_take h i
  rw [hu] at h1; cases h1
  have hi := (List.getElem?_eq_some_iff.1 hx).1
  have e : L.drop i = x :: L.drop (i + 1) := by rw [List.drop_eq_getElem_cons hi]; congr 1; exact (List.getElem?_eq_some_iff.1 hx).2
  rw [e] at h2
  have h2 : (if Hd.okA (qq x) (Hd.atO rm u (qq x)).2 = true then exO rm (Hd.atO rm u (qq x)).1 (L.drop (i + 1)) else none) = some vs' := h2
  split at h2
  · rename_i ho
    refine ⟨ho, ?_⟩
    rw [take_succ_of hx, exO_then hu]
    exact exO_cons ho
  · cases h2
end Go.Proofs.YtedaoljmcfbbpaaGreat.Dm
