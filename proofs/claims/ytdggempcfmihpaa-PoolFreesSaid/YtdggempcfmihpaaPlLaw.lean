/-
  SameInts, kept, num; an append onto an empty row; PoolFrees' walk.
-/
import Derived.Test.YtdggempcfmihpaaPlRefF
import Derived.BigQuiet
namespace Go.Proofs.Ytdggempcfmihpaa.Pl
open Go.RowKit Mr Me Wp Wc Wm
set_option linter.unusedVariables false
set_option linter.unusedSimpArgs false
section
variable {P : Program} (w : World)
theorem run_append_emp0 (t ty e : TypeId) (i : TypeInfo) (ht : P.underlying t = some (.slice e)) (hi : P.info? e = some i) (g0 : Nat) (a0 : Option Addr) (c : Nat) :
    (Builtin.append_ #[t, t] ty #[.slice (some ⟨g0, 0, none⟩) 0 0, .slice a0 0 c]).run P w = .ok (.slice (some ⟨g0, 0, none⟩) 0 0) w := by
  cases a0 <;> simp [Builtin.append_, run_underlying ht, sizeOf, typeInfo, hi, Builtin.lenOf, Builtin.firstCells, loadCells, loadCellsFrom, storeCells]
theorem run_append_emp (S : Nat → Prop) (t ty e : TypeId) (i : TypeInfo) (z : Value) (size bytes : Nat) (ht : P.underlying t = some (.slice e)) (hi : P.info? e = some i) (hz : i.zero = some z)
    (hsize : i.size = size) (hby : i.bytes = bytes) (hzs : z.cells.size = size) (g0 : Nat) (hown : Has w S e size (.slice (some ⟨g0, 0, none⟩) 0 0) 0 []) (a0 : Option Addr) (m c : Nat) (news : List Value) (hl : news.length = m * size) (ha : a0 = none → m = 0) (hnews : ∀ ad, a0 = some ad → ∀ j u, news[j]? = some u → w.cell? (ad.add j) = some u)
    (h1 : ∀ u ∈ news, u.oneCell' = true) (h63 : m ≤ maxLen) (hbytes : (m + m / 4 + 192) * bytes ≤ 281474976710656) (hS : S w.heap.size) :
    ∃ g cap w', (Builtin.append_ #[t, t] ty #[.slice (some ⟨g0, 0, none⟩) 0 0, .slice a0 m c]).run P w = .ok (.slice (some ⟨g, 0, none⟩) m cap) w' ∧ Has w' S e size (.slice (some ⟨g, 0, none⟩) m cap) m news ∧ w.grownBy w' (some g0) := by
  by_cases hm : m = 0
  · subst hm
    have hn : news = [] := List.eq_nil_of_length_eq_zero (by simpa using hl)
    subst hn
    exact ⟨_, _, _, run_append_emp0 w t ty e i ht hi g0 a0 c, hown, ⟨rfl, rfl, rfl, Nat.le_refl _, fun _ _ _ => rfl⟩⟩
  · cases a0 with
    | none => exact absurd (ha rfl) hm
    | some ad =>
      obtain ⟨g, cap, w', hr, h2, h3, h4⟩ := run_append_has (P := P) w S t ty e i z size bytes ht hi hz hsize hby hzs _ 0 [] hown ad m c news hl (hnews ad rfl) h1 (by omega) (by omega) (by rw [Nat.zero_add]; exact hbytes) hS
      rw [Nat.zero_add] at hr h2
      rw [List.nil_append] at h2
      exact ⟨g, cap, w', hr, h2, h3⟩
theorem wpList_append_emp {ops : Array Oper} {rest : List Oper} {o : Oper} {a : Act} {Q : Exit → Act → World → Prop} (hgd : o.guard = none) (s x : Operand) (t : TypeId)
    (ho : o.op = .call { callee := .builtin .append, args := #[s, x], argTypes := #[t, t] })
    (S : Nat → Prop) (e : TypeId) (i : TypeInfo) (z : Value) (size bytes : Nat) (ht : P.underlying t = some (.slice e)) (hi : P.info? e = some i) (hz : i.zero = some z)
    (hsize : i.size = size) (hby : i.bytes = bytes) (hzs : z.cells.size = size) (g0 : Nat) (hs : a.eval s = .slice (some ⟨g0, 0, none⟩) 0 0) (hown : Has w S e size (.slice (some ⟨g0, 0, none⟩) 0 0) 0 []) (a0 : Option Addr) (m c : Nat) (news : List Value) (hx : a.eval x = .slice a0 m c) (hl : news.length = m * size) (ha : a0 = none → m = 0) (hnews : ∀ ad, a0 = some ad → ∀ j u, news[j]? = some u → w.cell? (ad.add j) = some u)
    (h1 : ∀ u ∈ news, u.oneCell' = true) (h63 : m ≤ maxLen) (hbytes : (m + m / 4 + 192) * bytes ≤ 281474976710656) (hS : S w.heap.size)
    (h : ∀ g cap w', Has w' S e size (.slice (some ⟨g, 0, none⟩) m cap) m news → w.grownBy w' (some g0) → wpList P ops Q rest (a.put o.dst (.slice (some ⟨g, 0, none⟩) m cap)) w') : wpList P ops Q (o :: rest) a w := by
  refine wpList_plain hgd fun K hK => ?_
  obtain ⟨g, cap, w', hr, h2, h3⟩ := run_append_emp (P := P) w S t o.type e i z size bytes ht hi hz hsize hby hzs g0 hown a0 m c news hl ha hnews h1 h63 hbytes hS
  unfold Oper.wp execOp
  simp only [ho, resolve, invoke, builtin, Sem.run_bind, Sem.run_pure, Result.andThen_ok, List.map_toArray, List.map_cons, List.map_nil, hs, hx, hr]
  exact hK _ _ (h g cap w' h2 h3)
end
theorem ints_get (l : List Int) (i : Nat) (h : i < l.length) : (ints l)[i]? = some (.int .i64 (l[i]?.getD 0)) := by simp [ints, h]
set_option maxRecDepth 100000 in
set_option maxHeartbeats 4000000 in
theorem sameI {w : World} {S T : Nat → Prop} {u v : Value} {l : List Int} (hu : Has w S 3 1 u l.length (ints l)) (hv : Has w T 3 1 v l.length (ints l)) (hsm : l.length ≤ 1000000) :
    Calls Try.prog 8 #[u, v] w fun e w' => e = .returned (.bool true) ∧ Below w.heap.size w w' := by
  obtain ⟨au, cu, rfl, hcu⟩ := hu.form
  obtain ⟨av, cv, rfl, hcv⟩ := hv.form
  go_enter Try.func8, Try.ntmps8
  go_wp2
  go_loopg [5] l.length (fun k s wr => ∃ i : Nat, s = .int .i64 (i : Int) ∧ i + k = l.length ∧ Below w.heap.size w wr)
  case atStart => exact ⟨0, rfl, by omega, Below.refl _ _⟩
  case round =>
    obtain ⟨i, rfl, hi, B⟩ := hrel
    by_cases hlt : i < l.length
    · obtain ⟨gu, cu', hgu, _, hul, _⟩ := hu.there (by omega)
      obtain ⟨gv, cv', hgv, _, hvl, _⟩ := hv.there (by omega)
      cases hgu
      cases hgv
      have c1 := (B.cell (p := ⟨gu, i, none⟩) hul).trans (hu.cells (g := gu) rfl i _ (ints_get l i hlt))
      have c2 := (B.cell (p := ⟨gv, i, none⟩) hvl).trans (hv.cells (g := gv) rfl i _ (ints_get l i hlt))
      generalize hy : l[i]?.getD 0 = y at *
      clear hy
      replace hu := Mr.hid hu
      replace hv := Mr.hid hv
      generalize l.length = n at *
      have hB := Mr.hid B
      go_wp2
      go_region
      all_goals go_wp2
      all_goals go_roundg (gk - 1)
      case measure => omega
      case rel => exact ⟨i + 1, by simp, by omega, B.drew⟩
    · have hle : l.length ≤ i := by omega
      go_wp2
      go_ret
      exact ⟨rfl, B⟩
theorem num_any (x : Int) (w : World) : Calls Try.prog 7 #[.int .i64 x] w fun e w' => e = .returned (.int .i64 x) ∧ w' = w := by
  go_enter Try.func7, Try.ntmps7
  go_wp2
  go_ret
  exact ⟨rfl, rfl⟩
theorem add_at (aw : Addr) (i : Nat) : aw.add i = aw.add i := rfl
/-- full: the words, and one more. -/
structure Fl (W : World) (gF cF n : Nat) (ws : List Int) : Prop where
  wd : ∀ j x, ws[j]? = some x → W.cell? ⟨gF, j, none⟩ = some (.int .u64 x)
  en : W.cell? ⟨gF, n, none⟩ = some (.int .u64 77)
  lt : gF < W.heap.size
  le : n + 1 ≤ cF
theorem Fl.below {W W' : World} {gF cF n : Nat} {ws : List Int} (h : Fl W gF cF n ws) (hB : Below W.heap.size W W') : Fl W' gF cF n ws :=
  ⟨fun j x hx => (hB.cell (p := ⟨gF, j, none⟩) h.lt).trans (h.wd j x hx), (hB.cell (p := ⟨gF, n, none⟩) h.lt).trans h.en, Nat.lt_of_lt_of_le h.lt hB.size, h.le⟩
set_option maxRecDepth 100000 in
set_option maxHeartbeats 4000000 in
theorem kept_any {w : World} {gF cF n cap : Nat} {a : Option Addr} {ws : List Int} (hF : Fl w gF cF n ws) (hr : Rds w a n ws) (hn : n ≤ 17592186044416) :
    Calls Try.prog 9 #[.slice (some ⟨gF, 0, none⟩) (n + 1) cF, .slice a n cap] w fun e w' => e = .returned (.bool true) ∧ Below w.heap.size w w' := by
  go_enter Try.func9, Try.ntmps9
  go_wp2
  go_loopg [5] n (fun k s wr => ∃ i : Nat, s = .int .i64 (i : Int) ∧ i + k = n ∧ Below w.heap.size w wr)
  case atStart => exact ⟨0, rfl, by omega, Below.refl _ _⟩
  case round =>
    obtain ⟨i, rfl, hi, B⟩ := hrel
    have hF' := hF.below B
    by_cases hlt : i < n
    · obtain ⟨aw, rfl⟩ : ∃ aw, a = some aw := by
        cases a with
        | none => have := hr.2.1 rfl; omega
        | some aw => exact ⟨aw, rfl⟩
      have hlw : i < ws.length := by have := hr.1; omega
      have hx := wat_some hlw
      have c1 := hF'.wd i _ hx
      have c2 : wr.cell? (aw.add i) = some (.int .u64 (wat ws i)) := ((hr.2.2 aw rfl).fr (S := fun _ => False) (Fr.of_below B) (fun e => e)).rd i _ hx
      generalize wat ws i = y at *
      clear hx hlw
      replace hF := Mr.hid hF
      replace hF' := Mr.hid hF'
      replace hr := Mr.hid hr
      have hB := Mr.hid B
      clear B
      have hli : (i : Int) < (n : Int) := by omega
      go_wp2
      go_region
      all_goals go_wp2
      all_goals go_roundg (gk - 1)
      case measure => omega
      case rel => exact ⟨i + 1, by simp, by omega, hB.out.drew⟩
    · obtain rfl : i = n := by omega
      have c1 := hF'.en
      replace hF := Mr.hid hF
      replace hF' := Mr.hid hF'
      replace hr := Mr.hid hr
      have hB := Mr.hid B
      clear B
      go_wp2
      go_ret
      exact ⟨rfl, hB.out⟩
theorem info_u : (Try.prog.info? 25).map (fun i => (i.zero, i.size, i.bytes)) = some (some (.int .u64 0), 1, 8) := by kernel_rfl
theorem fl_of {W : World} {S : Nat → Prop} {gF cF n : Nat} {ws : List Int} (hn : n = ws.length) (h : Has W S 25 1 (.slice (some ⟨gF, 0, none⟩) (n + 1) cF) (n + 1) (wrd ws ++ [.int .u64 77])) : Fl W gF cF n ws := by
  have hc := h.cells (g := gF) rfl
  refine ⟨fun j x hx => hc j _ ?_, hc n _ ?_, (h.lt gF rfl).2, ?_⟩
  · have hj := (List.getElem?_eq_some_iff.1 hx).1
    rw [List.getElem?_append_left (by simpa [wrd] using hj)]
    simp [wrd, hx]
  · have hl : (wrd ws).length = n := by simp [wrd, hn]
    rw [List.getElem?_append_right (by omega), hl]; simp
  · obtain ⟨_, _, e, hle⟩ := h.form; cases e; exact hle
theorem fl_rds {W : World} {gF cF n : Nat} {ws : List Int} (hn : n = ws.length) (h : Fl W gF cF n ws) (hb : ∀ x ∈ ws, 0 ≤ x ∧ x ≤ 18446744073709551615) : Rds W (some ⟨gF, 0, none⟩) n ws := by
  refine ⟨hn, (fun e => by cases e), fun ad e => ?_⟩
  cases e
  refine ⟨fun j x hx => ?_, hb⟩
  have hadd : (⟨gF, 0, none⟩ : Addr).add j = ⟨gF, j, none⟩ := by unfold Addr.add; split <;> simp_all
  rw [hadd]; exact h.wd j x hx
theorem Rds.below {W W' : World} {a : Option Addr} {n : Nat} {ws : List Int} (h : Rds W a n ws) (hB : Below W.heap.size W W') : Rds W' a n ws :=
  ⟨h.1, h.2.1, fun ad e => (h.2.2 ad e).fr (S := fun _ => False) (Fr.of_below hB) (fun e => e)⟩
theorem emp_has (W : World) (S : Nat → Prop) (hS : S W.heap.size) : Has (W.alloc (.cells #[] 25)) S 25 1 (.slice (some ⟨W.heap.size, 0, none⟩) 0 0) 0 [] :=
  ⟨rfl, .inr ⟨_, 0, #[], rfl, hS, heap_alloc_new W _, Nat.le_refl _, by unfold maxLen; omega, by simp, rfl⟩⟩
theorem frE_len (c : C7) (ws : List Int) : (frE c ws).1.length ≤ 1000000 := by
  unfold frE
  by_cases hc : c.ok = true
  · rw [if_pos hc]
    by_cases hl : (ws.length : Int) = c.at 14
    · rw [if_pos hl]
      unfold frA
      split
      · simp
      · unfold fre
        split
        · have h1 := alg_len (wdr c ws 10) false ((vz c.a5.toNat).cm.count false + 1) ((vz c.a5.toNat).ent (nxt (wat ws 0))).2 ((vz c.a5.toNat).ent (nxt (wat ws 0))).1
          have h2 : (vz c.a5.toNat).cm.count false ≤ (vz c.a5.toNat).cm.length := List.count_le_length
          have h3 : (vz c.a5.toNat).cm.length = c.a5.toNat := by simp [vz]
          obtain ⟨-, -, -, -, -, h5, -, -⟩ := ok_of (show cfgB c.a0 c.a1 c.a2 c.a3 c.a4 c.a5 c.a6 = true from hc)
          rw [List.length_map]
          omega
        · simp
    · rw [if_neg hl]; simp
  · rw [if_neg hc]; simp
theorem wrd_one (ws : List Int) : ∀ u ∈ wrd ws, u.oneCell' = true := by
  intro u hu
  simp only [wrd, List.mem_map] at hu
  obtain ⟨x, _, rfl⟩ := hu
  simp [Value.oneCell']
set_option maxRecDepth 100000 in
set_option maxHeartbeats 4000000 in
theorem law_frees (c : C7) (a : Option Addr) (n cap : Nat) (ws : List Int) (W : World) (hr : Rds W a n ws) (hb : ∀ x ∈ ws, 0 ≤ x ∧ x ≤ 18446744073709551615) (hz : n * 8 ≤ 140737488351232) :
    Calls Try.prog 3 #[c.val, .slice a n cap] W fun e w' => e = .returned (.bool true) ∧ Below W.heap.size W w' := by
  obtain ⟨i0, hi0, hz0, hz1, hz2⟩ := info_parts info_u
  have hn := hr.1
  have e4 : (wrd ws).length = n * 1 := by simp [wrd, hn]
  have K0 : ∀ w', Below W.heap.size W w' → Rds w' a n ws := fun w' hB => hr.below hB
  have bB := (Below.refl W.heap.size W).alloc (Nat.le_refl _) (cfB c)
  have bx : ∀ w', Below (W.heap.size + 1) (W.alloc (cfB c)) w' → w'.heap[W.heap.size]? = some (cfB c) := fun w' hB => (hB.block _ (by omega)).trans (heap_alloc_new W _)
  have FA := fun (W : World) (a : Option Addr) (cap : Nat) (hr : Rds W a n ws) => Free_any (c := c) (cap := cap) hr
  have RA := fun (W : World) (a : Option Addr) (cap : Nat) (hr : Rds W a n ws) => refFree_any (c := c) (cap := cap) hr
  rw [frR_eq c ws hb] at RA
  have hlen := frE_len c ws
  generalize frE c ws = fe at *
  obtain ⟨l, er⟩ := fe
  simp only at FA RA hlen
  have news0 : ∀ ad, a = some ad → ∀ j u, (wrd ws)[j]? = some u → ((W.alloc (cfB c)).alloc (.cells #[] 25)).cell? (ad.add j) = some u := fun ad e j u hu => by
    have hB : Below W.heap.size W ((W.alloc (cfB c)).alloc (.cells #[] 25)) := bB.alloc (by simp) _
    rw [wrd, List.getElem?_map] at hu
    cases hx : ws[j]? with
    | none => rw [hx] at hu; cases hu
    | some x =>
      rw [hx] at hu
      cases hu
      exact ((hr.below hB).2.2 ad e).rd j x hx
  have emp := emp_has (W.alloc (cfB c)) (fun k => W.heap.size + 1 ≤ k) (by simp)
  have step1 : ∀ w1, ((W.alloc (cfB c)).alloc (.cells #[] 25)).grownBy w1 (some (W.alloc (cfB c)).heap.size) → Below (W.heap.size + 1) (W.alloc (cfB c)) w1 := fun w1 hg => ((Below.refl (W.heap.size + 1) (W.alloc (cfB c))).alloc (by simp) _).grown hg (by simp) (fun k hk => by simp at hk; omega)
  unfold C7.val at FA RA ⊢
  unfold cfB at news0 emp step1 bB bx
  have ha := hr.2.1
  replace FA := Mr.hid FA
  replace RA := Mr.hid RA
  replace K0 := Mr.hid K0
  replace bB := Mr.hid bB
  replace bx := Mr.hid bx
  replace news0 := Mr.hid news0
  replace emp := Mr.hid emp
  replace step1 := Mr.hid step1
  replace hb := Mr.hid hb
  replace hn := Mr.hid hn
  replace e4 := Mr.hid e4
  replace ha := Mr.hid ha
  clear hr
  go_enter Try.func3, Try.ntmps3
  go_upto_region 2 with (first | (at_builtin; refine wpList_append_emp _ rfl (.tmp 10) (.tmp 11) 24 rfl (fun k => W.heap.size + 1 ≤ k) 25 i0 _ 1 8 Try.underlying24 hi0 hz0 hz1 hz2 rfl (W.heap.size + 1) rfl (by simpa using emp.out) a n cap (wrd ws) rfl e4.out ha.out news0.out (wrd_one ws) (by unfold maxLen; omega) (by omega) (by simp) ?_; intro g1 c1 w1 hown1 hgrow1; have hB1 := step1.out w1 (by simpa using hgrow1); have law2 := fun o : Obj => hown1.alloc o; have step2 := (fun (o : Obj) (w2 : World) (hg : (w1.alloc o).grownBy w2 (some g1)) => (hB1.alloc (by have := hB1.size; simp at this; omega) o).grown hg (by have := hB1.size; simp at this; simp; omega) (fun k hk => by simp at hk; have := (hown1.lt g1 rfl).1; omega)); have hs1 : ∀ o : Obj, W.heap.size + 1 ≤ (w1.alloc o).heap.size := (fun o => by have := hB1.size; simp at this; simp; omega); clear emp news0 step1 hown1 hgrow1 hB1; replace law2 := Mr.hid law2; replace step2 := Mr.hid step2; replace hs1 := Mr.hid hs1) | (at_builtin; refine wpList_append_has _ rfl (.tmp 12) (.tmp 13) 24 rfl (fun k => W.heap.size + 1 ≤ k) 25 i0 _ 1 8 Try.underlying24 hi0 hz0 hz1 hz2 rfl (.slice (some ⟨g1, 0, none⟩) n c1) n (wrd ws) rfl (law2.out _) ⟨w1.heap.size, 0, none⟩ 1 1 [.int .u64 77] rfl rfl (newsAt w1 _ #[.int .u64 77] 25 _ rfl rfl) (by simp [Value.oneCell']) (by omega) (by unfold maxLen; omega) (by omega) (hs1.out _) ?_; intro gF cF w2 hown2 hgrow2 hat2; have hB2 := step2.out _ w2 hgrow2; have hF2 := fl_of hn.out hown2; clear law2 step2 hs1 hown2 hgrow2 hat2; replace hB2 := Mr.hid hB2; replace hF2 := Mr.hid hF2))
  have cel := fun (w' : World) (h : w'.heap[W.heap.size]? = some (cfB c)) => cfB_cells h
  unfold cfB at cel
  have hB2' : Below W.heap.size W w2 := bB.out.trans (hB2.out.mono (by omega))
  have P2 := FA.out w2.drew (some ⟨gF, 0, none⟩) cF (fl_rds hn.out (hF2.out.below ((Below.refl _ _).drew)) hb.out)
  obtain ⟨y0, y1, y2, y3, y4, y5, y6, y7⟩ := cel w2 (bx.out w2 hB2.out)
  have hle := hF2.out.le
  have hle2 : n ≤ cF := by omega
  have hle3 : (n : Int) ≤ (cF : Int) := by omega
  have hle4 : decide ((n : Int) ≤ (cF : Int)) = true := by simpa using hle3
  have hle5 : ¬ cF < n := by omega
  clear FA
  replace P2 := Mr.hid P2
  replace cel := Mr.hid cel
  replace hB2' := Mr.hid hB2'
  go_region_held3 (fun w' => w'.cell? ⟨W.heap.size, 0, none⟩ = some (.int .i64 c.a0) ∧ w'.cell? ⟨W.heap.size, 1, none⟩ = some (.int .i64 c.a1) ∧ w'.cell? ⟨W.heap.size, 2, none⟩ = some (.int .i64 c.a2) ∧ w'.cell? ⟨W.heap.size, 3, none⟩ = some (.int .i64 c.a3) ∧ w'.cell? ⟨W.heap.size, 4, none⟩ = some (.int .i64 c.a4) ∧ w'.cell? ⟨W.heap.size, 5, none⟩ = some (.int .i64 c.a5) ∧ w'.cell? ⟨W.heap.size, 6, none⟩ = some (.int .i64 c.a6)) (simp [*])
    (first | (go_at_call 5; refine P2.out.mono ?_; clear P2; rintro e w3 ⟨va, rfl, hva, hB3⟩; replace hB3 := ((Below.refl w2.heap.size w2).drew).trans hB3; obtain ⟨x0, x1, x2, x3, x4, x5, x6, x7⟩ := cel.out w3 (bx.out w3 (hB2.out.trans (hB3.mono y7))); have hF3 := hF2.out.below hB3; have hR3 := K0.out w3 (hB2'.out.trans (hB3.mono hB2'.out.size)); have hl3 := hB3.size; replace hva := Mr.hid hva; replace hF3 := Mr.hid hF3; replace hR3 := Mr.hid hR3; replace hB3 := Mr.hid (hB2'.out.trans (hB3.mono hB2'.out.size))))
  clear y0 y1 y2 y3 y4 y5 y6 hF2
  obtain ⟨pv, qv, rfl, _⟩ := hva.out.form
  have R3 := RA.out w3 a cap hR3.out
  clear RA
  replace R3 := Mr.hid R3
  go_wp2_with (first | (go_at_call 6; refine R3.out.mono ?_; clear R3; rintro e w4 ⟨vb, rfl, hvb, hB4⟩; have hva4 := hva.out.below hB4; have SI := sameI hva4 hvb hlen; have KP := (fun w5 (hB5 : Below w4.heap.size w4 w5) => kept_any (cap := cap) (hF3.out.below (hB4.trans (hB5.mono hB4.size))) (Rds.below hR3.out (hB4.trans (hB5.mono hB4.size))) (by omega)); have hB4' := hB3.out.trans (hB4.mono hB3.out.size); obtain ⟨pb, qb, rfl, _⟩ := hvb.form; clear hvb hva4 hB4 hva hF3 hR3; replace SI := Mr.hid SI; replace KP := Mr.hid KP; replace hB4' := Mr.hid hB4') | (go_at_call 7; refine (num_any _ _).mono ?_; rintro e wn ⟨rfl, hwn⟩; obtain rfl := hwn.symm; clear hwn) | (go_at_call 8; refine SI.out.mono ?_; clear SI; rintro e w5 ⟨rfl, hB5⟩; have KP5 := KP.out w5 hB5; replace KP5 := Mr.hid KP5; replace hB5 := Mr.hid (hB4'.out.trans (hB5.mono hB4'.out.size))) | (go_at_call 9; refine KP5.out.mono ?_; clear KP5; rintro e w6 ⟨rfl, hB6⟩; replace hB6 := Mr.hid (hB5.out.trans (hB6.mono hB5.out.size))))
  go_ret
  exact ⟨rfl, hB6.out⟩
theorem walk_frees (a0 a1 a2 a3 a4 a5 a6 : Int) (a : Option Addr) (n cap : Nat) (ws : List Int) (W : World) (hr : Rds W a n ws) (hb : ∀ x ∈ ws, 0 ≤ x ∧ x ≤ 18446744073709551615) (hz : n * 8 ≤ 140737488351232) :
    Calls Try.prog 3 #[.agg #[.int .i64 a0, .int .i64 a1, .int .i64 a2, .int .i64 a3, .int .i64 a4, .int .i64 a5, .int .i64 a6], .slice a n cap] W fun e w' => e = .returned (.bool true) ∧ Below W.heap.size W w' :=
  law_frees ⟨a0, a1, a2, a3, a4, a5, a6⟩ a n cap ws W hr hb hz
end Go.Proofs.Ytdggempcfmihpaa.Pl
