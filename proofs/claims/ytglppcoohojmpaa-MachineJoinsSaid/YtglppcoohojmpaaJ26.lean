import Derived.Test.YtglppcoohojmpaaJ02
import Derived.Deep.RegionHeld3
import Derived.Test.YtglppcoohojmpaaJ25
import Derived.Deep.DeepCutAuto
/-
  append onto nil from whatever source.
-/
namespace Go.Proofs.Ytglppcoohojmpaa.Me
open Go.RowKit Mr
set_option linter.unusedVariables false
section
variable {P : Program} (w : World)
theorem run_append_none (t ty e : TypeId) (i : TypeInfo) (ht : P.underlying t = some (.slice e)) (hi : P.info? e = some i) (a0 : Option Addr) (c : Nat) :
    (Builtin.append_ #[t, t] ty #[.slice none 0 0, .slice a0 0 c]).run P w = .ok (.slice none 0 0) w := by
  cases a0 <;> simp [Builtin.append_, run_underlying ht, sizeOf, typeInfo, hi, Builtin.lenOf, Builtin.firstCells, loadCells, loadCellsFrom]
theorem run_append_fresh (S : Nat → Prop) (t ty e : TypeId) (i : TypeInfo) (z : Value) (size bytes : Nat) (ht : P.underlying t = some (.slice e)) (hi : P.info? e = some i) (hz : i.zero = some z)
    (hsize : i.size = size) (hby : i.bytes = bytes) (hzs : z.cells.size = size) (a0 : Option Addr) (m c : Nat) (news : List Value) (hl : news.length = m * size) (ha : a0 = none → m = 0) (hnews : ∀ ad, a0 = some ad → ∀ j u, news[j]? = some u → w.cell? (ad.add j) = some u)
    (h1 : ∀ u ∈ news, u.oneCell' = true) (h63 : m ≤ maxLen) (hbytes : (m + m / 4 + 192) * bytes ≤ 281474976710656) (hS : S w.heap.size) :
    ∃ v' w', (Builtin.append_ #[t, t] ty #[.slice none 0 0, .slice a0 m c]).run P w = .ok v' w' ∧ Has w' S e size v' m news ∧ w.grownBy w' none ∧ (∀ k, v'.ownBlock = some k → k = w.heap.size) := by
  by_cases hm : m = 0
  · subst hm
    have hn : news = [] := List.eq_nil_of_length_eq_zero (by simpa using hl)
    subst hn
    exact ⟨_, _, run_append_none w t ty e i ht hi a0 c, Has.nil _ _ _ _, ⟨rfl, rfl, rfl, Nat.le_refl _, fun _ _ _ => rfl⟩, fun k hk => by simp [Value.ownBlock] at hk⟩
  · cases a0 with
    | none => exact absurd (ha rfl) hm
    | some ad =>
      obtain ⟨g, cap, w', hr, h2, h3, h4⟩ := run_append_has (P := P) w S t ty e i z size bytes ht hi hz hsize hby hzs (.slice none 0 0) 0 [] (Has.nil _ _ _ _) ad m c news hl (hnews ad rfl) h1 (by omega) (by omega) (by rw [Nat.zero_add]; exact hbytes) hS
      rw [Nat.zero_add] at hr h2
      rw [List.nil_append] at h2
      refine ⟨_, w', hr, h2, h3, fun k hk => ?_⟩
      rcases h4 with h4 | h4
      · simp [Value.ownBlock] at h4
      · simp [Value.ownBlock] at hk
        omega
theorem wp_append_fresh {o : Oper} {a : Act} {K : Act → World → Prop} {Q : Exit → Act → World → Prop} (s x : Operand) (t : TypeId)
    (ho : o.op = .call { callee := .builtin .append, args := #[s, x], argTypes := #[t, t] })
    (S : Nat → Prop) (e : TypeId) (i : TypeInfo) (z : Value) (size bytes : Nat) (ht : P.underlying t = some (.slice e)) (hi : P.info? e = some i) (hz : i.zero = some z)
    (hsize : i.size = size) (hby : i.bytes = bytes) (hzs : z.cells.size = size) (hs : a.eval s = .slice none 0 0) (a0 : Option Addr) (m c : Nat) (news : List Value) (hx : a.eval x = .slice a0 m c) (hl : news.length = m * size) (ha : a0 = none → m = 0) (hnews : ∀ ad, a0 = some ad → ∀ j u, news[j]? = some u → w.cell? (ad.add j) = some u)
    (h1 : ∀ u ∈ news, u.oneCell' = true) (h63 : m ≤ maxLen) (hbytes : (m + m / 4 + 192) * bytes ≤ 281474976710656) (hS : S w.heap.size)
    (h : ∀ v' w', Has w' S e size v' m news → w.grownBy w' none → (∀ k, v'.ownBlock = some k → k = w.heap.size) → K (a.put o.dst v') w') : o.wp P a w K Q := by
  obtain ⟨v', w', hr, h2, h3, h4⟩ := run_append_fresh (P := P) w S t o.type e i z size bytes ht hi hz hsize hby hzs a0 m c news hl ha hnews h1 h63 hbytes hS
  unfold Oper.wp execOp
  simp only [ho, resolve, invoke, builtin, Sem.run_bind, Sem.run_pure, Result.andThen_ok, List.map_toArray, List.map_cons, List.map_nil, hs, hx, hr]
  exact h v' w' h2 h3 h4
theorem wpList_append_fresh {ops : Array Oper} {rest : List Oper} {o : Oper} {a : Act} {Q : Exit → Act → World → Prop} (hgd : o.guard = none) (s x : Operand) (t : TypeId)
    (ho : o.op = .call { callee := .builtin .append, args := #[s, x], argTypes := #[t, t] })
    (S : Nat → Prop) (e : TypeId) (i : TypeInfo) (z : Value) (size bytes : Nat) (ht : P.underlying t = some (.slice e)) (hi : P.info? e = some i) (hz : i.zero = some z)
    (hsize : i.size = size) (hby : i.bytes = bytes) (hzs : z.cells.size = size) (hs : a.eval s = .slice none 0 0) (a0 : Option Addr) (m c : Nat) (news : List Value) (hx : a.eval x = .slice a0 m c) (hl : news.length = m * size) (ha : a0 = none → m = 0) (hnews : ∀ ad, a0 = some ad → ∀ j u, news[j]? = some u → w.cell? (ad.add j) = some u)
    (h1 : ∀ u ∈ news, u.oneCell' = true) (h63 : m ≤ maxLen) (hbytes : (m + m / 4 + 192) * bytes ≤ 281474976710656) (hS : S w.heap.size)
    (h : ∀ v' w', Has w' S e size v' m news → w.grownBy w' none → (∀ k, v'.ownBlock = some k → k = w.heap.size) → wpList P ops Q rest (a.put o.dst v') w') : wpList P ops Q (o :: rest) a w :=
  wpList_plain hgd fun _ hK => wp_append_fresh w s x t ho S e i z size bytes ht hi hz hsize hby hzs hs a0 m c news hx hl ha hnews h1 h63 hbytes hS fun v' w' h2 h3 h4 => hK _ _ (h v' w' h2 h3 h4)
theorem step_append_fresh {ops : Array Oper} {o : Oper} {a : Act} {K : Act → World → Prop} {Q : Exit → Act → World → Prop} {E : Prop} (hgd : o.guard = none) (s x : Operand) (t : TypeId)
    (ho : o.op = .call { callee := .builtin .append, args := #[s, x], argTypes := #[t, t] })
    (S : Nat → Prop) (e : TypeId) (i : TypeInfo) (z : Value) (size bytes : Nat) (ht : P.underlying t = some (.slice e)) (hi : P.info? e = some i) (hz : i.zero = some z)
    (hsize : i.size = size) (hby : i.bytes = bytes) (hzs : z.cells.size = size) (hs : a.eval s = .slice none 0 0) (a0 : Option Addr) (m c : Nat) (news : List Value) (hx : a.eval x = .slice a0 m c) (hl : news.length = m * size) (ha : a0 = none → m = 0) (hnews : ∀ ad, a0 = some ad → ∀ j u, news[j]? = some u → w.cell? (ad.add j) = some u)
    (h1 : ∀ u ∈ news, u.oneCell' = true) (h63 : m ≤ maxLen) (hbytes : (m + m / 4 + 192) * bytes ≤ 281474976710656) (hS : S w.heap.size)
    (h : ∀ v' w', Has w' S e size v' m news → w.grownBy w' none → (∀ k, v'.ownBlock = some k → k = w.heap.size) → K (a.put o.dst v') w') :
    if Region.wanted o (yielded ops a.tmps) = true then Oper.wp P o a w K Q else E := by
  have hw : Region.wanted o (yielded ops a.tmps) = true := by simp [Region.wanted, hgd]
  rw [if_pos hw]
  exact wp_append_fresh w s x t ho S e i z size bytes ht hi hz hsize hby hzs hs a0 m c news hx hl ha hnews h1 h63 hbytes hS h
end
/-- A source's own facts, as append asks them. -/
theorem Src.news {W : World} {a : Option Addr} {n cap : Nat} {ws : List Int} (h : Src W a n cap ws) : (a = none → n = 0) ∧ ∀ ad, a = some ad → ∀ j u, (wrd ws)[j]? = some u → W.cell? (ad.add j) = some u := by
  rcases h.2 with ⟨rfl, rfl, rfl⟩ | ⟨ad, rfl, hc⟩
  · exact ⟨fun _ => rfl, fun ad h => (by cases h)⟩
  · exact ⟨fun h => (by cases h), fun ad' h => (by cases h; exact hc)⟩
end Go.Proofs.Ytglppcoohojmpaa.Me
/-
  THE DOCUMENT's MACHINE: New (a machine without slots and records).
-/
namespace Go.Proofs.Ytglppcoohojmpaa.Rf
open Go.RowKit Mr Me Ma
theorem info_u64 : (Try.prog.info? 59).map (fun i => (i.zero, i.size, i.bytes)) = some (some (.int .u64 0), 1, 8) := by kernel_rfl
theorem wrd_one' (ws : List Int) : ∀ u ∈ wrd ws, u.oneCell' = true := by
  intro u hu
  obtain ⟨x, _, rfl⟩ := List.mem_map.1 hu
  rfl
theorem bodyPost_imp {P : Program} {fn : Func} {R R' : Ending → World → Prop} (h : ∀ e w, R e w → R' e w) : ∀ x a w, bodyPost P fn R x a w → bodyPost P fn R' x a w := by
  intro x a w hx
  cases x with
  | normal => obtain ⟨d, v, hv, hr⟩ := hx; exact ⟨d, v, hv, h _ _ hr⟩
  | ret => obtain ⟨d, v, hv, hr⟩ := hx; exact ⟨d, v, hv, h _ _ hr⟩
  | panic c => exact ⟨hx.1, h _ _ hx.2⟩
  | outgrown => exact h _ _ hx
  | exit id => exact hx
  | goto l => exact hx
/-- What New makes. -/
structure Nw (W0 w' : World) (nt b : Nat) (ws : List Int) (code : List Ins) (vcd ven vw vlb vt : Value) : Prop where
  bel : Below W0.heap.size W0 w'
  lb : W0.heap.size ≤ b
  bx : w'.heap[b]? = some (.cells #[.int .i64 (nt : Int), .int .i64 0, .int .i64 0, .int .i64 0, .int .i64 0, .int .i64 0, .int .i64 0, vw, vcd, vlb, ven, vt, nilS, nilS, nilS, u0, u0, u0, u0, u0, u0, u0, u0, .int .i64 0, nilS, nilS, nilS] 73 (0, 0))
  wd : Has w' (fun k => W0.heap.size ≤ k) 59 1 vw ws.length (wrd ws)
  la : Has w' (fun k => W0.heap.size ≤ k) 3 1 vlb (labsOf code code.length).length (nums (labsOf code code.length))
  th : Has w' (fun k => W0.heap.size ≤ k) 118 658 vt nt ((List.replicate nt rt0).flatMap Rt.cells)
set_option maxRecDepth 100000 in
set_option maxHeartbeats 4000000 in
theorem New_any (W0 : World) (nt : Nat) (hnt : nt ≤ 100000) (a : Option Addr) (n cap : Nat) (ws : List Int) (hs : Src W0 a n cap ws) (hn : n ≤ 8192) {gd cd ne : Nat} {code : List Ins} {S : Nat → Prop} {ae : Option Addr} {ce : Nat}
    (hcd : Has W0 S 112 6 (.slice (some ⟨gd, 0, none⟩) code.length cd) code.length (code.flatMap Ins.cells)) (hcode : ∀ I ∈ code, I.kd = 10 → ∃ l : Nat, I.a = l ∧ l ≤ 1000) :
    Calls Try.prog 13 #[.agg #[.int .i64 (nt : Int), .int .i64 0, .int .i64 0, .int .i64 0, .int .i64 0, .int .i64 0, .int .i64 0], .int .i64 0, .slice a n cap, .slice (some ⟨gd, 0, none⟩) code.length cd, .slice ae ne ce] W0 fun e w' => ∃ b vw vlb vt, e = .returned (.pointer (some ⟨b, 0, none⟩)) ∧ Nw W0 w' nt b ws code (.slice (some ⟨gd, 0, none⟩) code.length cd) (.slice ae ne ce) vw vlb vt := by
  obtain ⟨i0, hi, hz0, hz1, hz2⟩ := info_parts info_u64
  have hwn := hs.1
  subst hwn
  have nws := fun (W : World) (hB : Below W0.heap.size W0 W) => (hs.below hB).news
  have BE : ∀ o : Obj, Below W0.heap.size W0 (W0.alloc o).drew := fun o => ((Below.refl _ _).alloc (Nat.le_refl _) o).drew
  have FN := fun (o : Obj) (w1 : World) (v : Value) (m : Obj) (hv : Has w1 (fun k => W0.heap.size < k) 59 1 v ws.length (wrd ws)) (hg : (W0.alloc o).drew.grownBy w1 none) => (show w1.heap[W0.heap.size]? = some o ∧ Below W0.heap.size W0 (w1.alloc m) ∧ (w1.alloc m).heap[W0.heap.size]? = some o ∧ W0.heap.size ≤ w1.heap.size ∧ Has (w1.alloc m) (fun k => W0.heap.size < k) 59 1 v ws.length (wrd ws) from by
    have h1 : Below W0.heap.size W0 w1 := (BE o).grown hg (by simp) (fun k hk => by cases hk)
    have hsz : W0.heap.size < w1.heap.size := by have := hg.size; simp at this; omega
    have k0 : w1.heap[W0.heap.size]? = some o := (hg.block _ (by simp) (fun e => by cases e)).trans (heap_alloc_new W0 o)
    refine ⟨k0, h1.alloc h1.size m, (Below.heap_alloc _ _ _ hsz).trans ((hg.block _ (by simp) (fun e => by cases e)).trans (heap_alloc_new W0 o)), h1.size, hv.alloc m⟩)
  have hwl : (wrd ws).length = ws.length * 1 := by simp [wrd]
  have ha0 := hs.news.1
  have hone := wrd_one' ws
  replace nws := Mr.hid nws
  replace BE := Mr.hid BE
  replace FN := Mr.hid FN
  replace hcd := Mr.hid hcd
  replace hcode := Mr.hid hcode
  replace hone := Mr.hid hone
  replace hs := Mr.hid hs
  go_enter Try.func13, Try.ntmps13
  go_upto_region 1 with fail
  go_cut [11] (fun z wx => ∃ b pv qv, z = .pointer (some ⟨b, 0, none⟩) ∧ Below W0.heap.size W0 wx ∧ wx.heap[W0.heap.size]? = some (.cells #[.int .i64 (nt : Int), .int .i64 0, .int .i64 0, .int .i64 0, .int .i64 0, .int .i64 0, .int .i64 0] 43 (0, 0)) ∧ W0.heap.size ≤ b ∧ wx.heap[b]? = some (.cells #[.int .i64 (nt : Int), .int .i64 0, .int .i64 0, .int .i64 0, .int .i64 0, .int .i64 0, .int .i64 0, .slice pv ws.length qv, .slice (some ⟨gd, 0, none⟩) code.length cd, nilS, .slice ae ne ce, nilS, nilS, nilS, nilS, u0, u0, u0, u0, u0, u0, u0, u0, .int .i64 0, nilS, nilS, nilS] 73 (0, 0)) ∧ Has wx (fun k => W0.heap.size < k) 59 1 (.slice pv ws.length qv) ws.length (wrd ws))
  case first =>
    go_region_law (refine step_append_fresh _ rfl (.const (.slice none 0 0)) (.tmp 19) 22 rfl (fun k => W0.heap.size < k) 59 i0 _ 1 8 Try.underlying22 hi hz0 hz1 hz2 rfl rfl a ws.length cap (wrd ws) (by first | rfl | simp [Act.eval, Act.put]) hwl ha0 (nws.out _ (BE.out _)).2 hone.out (by unfold maxLen; omega) (by omega) (by simp) ?_; intro v w1 hv hg hat; have F9 := fun m => FN.out (.cells #[.int .i64 (nt : Int), .int .i64 0, .int .i64 0, .int .i64 0, .int .i64 0, .int .i64 0, .int .i64 0] 43) w1 v m hv hg; have k0 := (F9 (.cells #[] 0)).1; have kk : w1.cell? ⟨W0.heap.size, 0, none⟩ = some (.int .i64 (nt : Int)) ∧ w1.cell? ⟨W0.heap.size, 1, none⟩ = some (.int .i64 0) ∧ w1.cell? ⟨W0.heap.size, 2, none⟩ = some (.int .i64 0) ∧ w1.cell? ⟨W0.heap.size, 3, none⟩ = some (.int .i64 0) ∧ w1.cell? ⟨W0.heap.size, 4, none⟩ = some (.int .i64 0) ∧ w1.cell? ⟨W0.heap.size, 5, none⟩ = some (.int .i64 0) ∧ w1.cell? ⟨W0.heap.size, 6, none⟩ = some (.int .i64 0) := (by simp [World.cell?, k0]); obtain ⟨kk0, kk1, kk2, kk3, kk4, kk5, kk6⟩ := kk; obtain ⟨pv, qv, rfl, _⟩ := hv.form; have hsz1 := hg.size; replace F9 := Mr.hid F9; clear hv hg hat k0)
    all_goals go_wp2
    all_goals go_meet
    all_goals (obtain ⟨_, r1, r2, r3, r4⟩ := F9.out _; exact ⟨_, _, _, rfl, r1, r2, r3, heap_alloc_new _ _, r4⟩)
  case rest =>
    obtain ⟨b, pv, qv, rfl, r1, r2, r3, r4, r5⟩ := hcut
    go_step
    refine wp_mono (new_labels (W0 := W0) (R := fun w' => ∃ vw vlb vt, Nw W0 w' nt b ws code (.slice (some ⟨gd, 0, none⟩) code.length cd) (.slice ae ne ce) vw vlb vt) hnt r2 r4 r3 r1 hcd.out hcode.out (fun w' vt vlb g1 g2 g3 g4 g5 => ?_)) (fun x a' w' => bodyPost_imp (fun e w' ⟨h1, vw, vlb, vt, h2⟩ => ⟨b, vw, vlb, vt, h1, h2⟩) x a' w')
    have hs1 := r1.size
    have nvb : (Value.slice pv ws.length qv).ownBlock ≠ some b := not_row r4 r5 (by decide)
    refine ⟨_, vlb, vt, g1, r3, g3, ?_, g4.mono (fun k hk => by omega), g5.mono (fun k hk => by omega)⟩
    exact (r5.kept (fun k hk => g2.block k (r5.lt k hk).2 (fun e => nvb (by rw [hk, e]))) (fun k hk => (r5.lt k hk).1)).mono (fun k hk => by omega)
end Go.Proofs.Ytglppcoohojmpaa.Rf
