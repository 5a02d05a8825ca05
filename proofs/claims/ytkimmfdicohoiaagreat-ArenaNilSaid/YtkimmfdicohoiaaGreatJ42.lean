import Derived.Test.YtkimmfdicohoiaaGreatJ01
import Derived.Deep.RegionHeld3
import Derived.Test.YtkimmfdicohoiaaGreatJ41
import Derived.Deep.DeepCutAuto
/-
  append onto nil from whatever source.
-/
namespace Go.Proofs.YtkimmfdicohoiaaGreat.Me
open Go.RowKit Mr
set_option linter.unusedVariables false
section
variable {P : Program} (w : World)
theorem run_append_none (t ty e : TypeId) (i : TypeInfo) (ht : P.underlying t = some (.slice e)) (hi : P.info? e = some i) (a0 : Option Addr) (c : Nat) :
    (Builtin.append_ #[t, t] ty #[.slice none 0 0, .slice a0 0 c]).run P w = .ok (.slice none 0 0) w := by
  cases a0 <;> simp [Builtin.append_, run_underlying ht, sizeOf, typeInfo, hi, Builtin.lenOf, Builtin.firstCells, loadCells, loadCellsFrom]
theorem run_append_fresh (S : Nat → Prop) (t ty e : TypeId) (i : TypeInfo) (z : Value) (size bytes : Nat) (ht : P.underlying t = some (.slice e)) (hi : P.info? e = some i) (hz : i.zero = some z)
    (hsize : i.size = size) (hby : i.bytes = bytes) (hzs : z.cells.size = size) (a0 : Option Addr) (m c : Nat) (news : List Value) (hl : news.length = m * size) (ha : a0 = none → m = 0) (hnews : ∀ ad, a0 = some ad → ∀ j u, news[j]? = some u → w.cell? (ad.add j) = some u)
    (h1 : ∀ u ∈ news, u.oneCell' = true) (h63 : m ≤ maxLen) (hbytes : (m + m / 4 + 192) * bytes ≤ 281474976710656) (hS : S w.heap.size) :
    ∃ v' w', (Builtin.append_ #[t, t] ty #[.slice none 0 0, .slice a0 m c]).run P w = .ok v' w' ∧ Has w' S e size v' m news ∧ w.grownBy w' none ∧ (∀ k, v'.ownBlock = some k → k = w.heap.size) := by
  by_cases hm : m = 0
  · subst hm
    have hn : news = [] := List.eq_nil_of_length_eq_zero (by simpa using hl)
    subst hn
    exact ⟨_, _, run_append_none w t ty e i ht hi a0 c, Has.nil _ _ _ _, ⟨rfl, rfl, rfl, Nat.le_refl _, fun _ _ _ => rfl⟩, fun k hk => by simp [Value.ownBlock] at hk⟩
  · cases a0 with
    | none => exact absurd (ha rfl) hm
    | some ad =>
      obtain ⟨g, cap, w', hr, h2, h3, h4⟩ := run_append_has (P := P) w S t ty e i z size bytes ht hi hz hsize hby hzs (.slice none 0 0) 0 [] (Has.nil _ _ _ _) ad m c news hl (hnews ad rfl) h1 (by omega) (by omega) (by rw [Nat.zero_add]; exact hbytes) hS
      rw [Nat.zero_add] at hr h2
      rw [List.nil_append] at h2
      refine ⟨_, w', hr, h2, h3, fun k hk => ?_⟩
      rcases h4 with h4 | h4
      · simp [Value.ownBlock] at h4
      · simp [Value.ownBlock] at hk
        omega
theorem wp_append_fresh {o : Oper} {a : Act} {K : Act → World → Prop} {Q : Exit → Act → World → Prop} (s x : Operand) (t : TypeId)
    (ho : o.op = .call { callee := .builtin .append, args := #[s, x], argTypes := #[t, t] })
    (S : Nat → Prop) (e : TypeId) (i : TypeInfo) (z : Value) (size bytes : Nat) (ht : P.underlying t = some (.slice e)) (hi : P.info? e = some i) (hz : i.zero = some z)
    (hsize : i.size = size) (hby : i.bytes = bytes) (hzs : z.cells.size = size) (hs : a.eval s = .slice none 0 0) (a0 : Option Addr) (m c : Nat) (news : List Value) (hx : a.eval x = .slice a0 m c) (hl : news.length = m * size) (ha : a0 = none → m = 0) (hnews : ∀ ad, a0 = some ad → ∀ j u, news[j]? = some u → w.cell? (ad.add j) = some u)
    (h1 : ∀ u ∈ news, u.oneCell' = true) (h63 : m ≤ maxLen) (hbytes : (m + m / 4 + 192) * bytes ≤ 281474976710656) (hS : S w.heap.size)
    (h : ∀ v' w', Has w' S e size v' m news → w.grownBy w' none → (∀ k, v'.ownBlock = some k → k = w.heap.size) → K (a.put o.dst v') w') : o.wp P a w K Q := by
  obtain ⟨v', w', hr, h2, h3, h4⟩ := run_append_fresh (P := P) w S t o.type e i z size bytes ht hi hz hsize hby hzs a0 m c news hl ha hnews h1 h63 hbytes hS
  unfold Oper.wp execOp
  simp only [ho, resolve, invoke, builtin, Sem.run_bind, Sem.run_pure, Result.andThen_ok, List.map_toArray, List.map_cons, List.map_nil, hs, hx, hr]
  exact h v' w' h2 h3 h4
theorem wpList_append_fresh {ops : Array Oper} {rest : List Oper} {o : Oper} {a : Act} {Q : Exit → Act → World → Prop} (hgd : o.guard = none) (s x : Operand) (t : TypeId)
    (ho : o.op = .call { callee := .builtin .append, args := #[s, x], argTypes := #[t, t] })
    (S : Nat → Prop) (e : TypeId) (i : TypeInfo) (z : Value) (size bytes : Nat) (ht : P.underlying t = some (.slice e)) (hi : P.info? e = some i) (hz : i.zero = some z)
    (hsize : i.size = size) (hby : i.bytes = bytes) (hzs : z.cells.size = size) (hs : a.eval s = .slice none 0 0) (a0 : Option Addr) (m c : Nat) (news : List Value) (hx : a.eval x = .slice a0 m c) (hl : news.length = m * size) (ha : a0 = none → m = 0) (hnews : ∀ ad, a0 = some ad → ∀ j u, news[j]? = some u → w.cell? (ad.add j) = some u)
    (h1 : ∀ u ∈ news, u.oneCell' = true) (h63 : m ≤ maxLen) (hbytes : (m + m / 4 + 192) * bytes ≤ 281474976710656) (hS : S w.heap.size)
    (h : ∀ v' w', Has w' S e size v' m news → w.grownBy w' none → (∀ k, v'.ownBlock = some k → k = w.heap.size) → wpList P ops Q rest (a.put o.dst v') w') : wpList P ops Q (o :: rest) a w :=
  wpList_plain hgd fun _ hK => wp_append_fresh w s x t ho S e i z size bytes ht hi hz hsize hby hzs hs a0 m c news hx hl ha hnews h1 h63 hbytes hS fun v' w' h2 h3 h4 => hK _ _ (h v' w' h2 h3 h4)
theorem step_append_fresh {ops : Array Oper} {o : Oper} {a : Act} {K : Act → World → Prop} {Q : Exit → Act → World → Prop} {E : Prop} (hgd : o.guard = none) (s x : Operand) (t : TypeId)
    (ho : o.op = .call { callee := .builtin .append, args := #[s, x], argTypes := #[t, t] })
    (S : Nat → Prop) (e : TypeId) (i : TypeInfo) (z : Value) (size bytes : Nat) (ht : P.underlying t = some (.slice e)) (hi : P.info? e = some i) (hz : i.zero = some z)
    (hsize : i.size = size) (hby : i.bytes = bytes) (hzs : z.cells.size = size) (hs : a.eval s = .slice none 0 0) (a0 : Option Addr) (m c : Nat) (news : List Value) (hx : a.eval x = .slice a0 m c) (hl : news.length = m * size) (ha : a0 = none → m = 0) (hnews : ∀ ad, a0 = some ad → ∀ j u, news[j]? = some u → w.cell? (ad.add j) = some u)
    (h1 : ∀ u ∈ news, u.oneCell' = true) (h63 : m ≤ maxLen) (hbytes : (m + m / 4 + 192) * bytes ≤ 281474976710656) (hS : S w.heap.size)
    (h : ∀ v' w', Has w' S e size v' m news → w.grownBy w' none → (∀ k, v'.ownBlock = some k → k = w.heap.size) → K (a.put o.dst v') w') :
    if Region.wanted o (yielded ops a.tmps) = true then Oper.wp P o a w K Q else E := by
  have hw : Region.wanted o (yielded ops a.tmps) = true := by simp [Region.wanted, hgd]
  rw [if_pos hw]
  exact wp_append_fresh w s x t ho S e i z size bytes ht hi hz hsize hby hzs hs a0 m c news hx hl ha hnews h1 h63 hbytes hS h
end
/-- A source's own facts, as append asks them. -/
theorem Src.news {W : World} {a : Option Addr} {n cap : Nat} {ws : List Int} (h : Src W a n cap ws) : (a = none → n = 0) ∧ ∀ ad, a = some ad → ∀ j u, (wrd ws)[j]? = some u → W.cell? (ad.add j) = some u := by
  rcases h.2 with ⟨rfl, rfl, rfl⟩ | ⟨ad, rfl, hc⟩
  · exact ⟨fun _ => rfl, fun ad h => (by cases h)⟩
  · exact ⟨fun h => (by cases h), fun ad' h => (by cases h; exact hc)⟩
end Go.Proofs.YtkimmfdicohoiaaGreat.Me
/-
  THE DOCUMENT's MACHINE: New (a machine without slots and records).
-/
namespace Go.Proofs.YtkimmfdicohoiaaGreat.Rf
open Go.RowKit Mr Me Ma
theorem info_u64 : (Tryz.prog.info? 92).map (fun i => (i.zero, i.size, i.bytes)) = some (some (.int .u64 0), 1, 8) := by kernel_rfl
theorem wrd_one' (ws : List Int) : ∀ u ∈ wrd ws, u.oneCell' = true := by
  intro u hu
  obtain ⟨x, _, rfl⟩ := List.mem_map.1 hu
  rfl
theorem bodyPost_imp {P : Program} {fn : Func} {R R' : Ending → World → Prop} (h : ∀ e w, R e w → R' e w) : ∀ x a w, bodyPost P fn R x a w → bodyPost P fn R' x a w := by
  intro x a w hx
  cases x with
  | normal => obtain ⟨d, v, hv, hr⟩ := hx; exact ⟨d, v, hv, h _ _ hr⟩
  | ret => obtain ⟨d, v, hv, hr⟩ := hx; exact ⟨d, v, hv, h _ _ hr⟩
  | panic c => exact ⟨hx.1, h _ _ hx.2⟩
  | outgrown => exact h _ _ hx
  | exit id => exact hx
  | goto l => exact hx
/-- What New makes, at any configuration. -/
structure Nw (W0 w' : World) (nt nr ns b : Nat) (us c2 c3 c4 c6 : Int) (ws : List Int) (code : List Ins) (vcd ven vw vlb vt vst vho vli : Value) : Prop where
  bel : Below W0.heap.size W0 w'
  lb : W0.heap.size ≤ b
  bx : w'.heap[b]? = some (.cells #[.int .i64 (nt : Int), .int .i64 (nr : Int), .int .i64 c2, .int .i64 c3, .int .i64 c4, .int .i64 (ns : Int), .int .i64 c6, vw, vcd, vlb, ven, vt, vst, vho, vli, u0, u0, u0, u0, u0, u0, u0, u0, .int .i64 0, nilS, nilS, nilS] 135 (0, 0))
  wd : Has w' (fun k => W0.heap.size ≤ k) 92 1 vw ws.length (wrd ws)
  la : Has w' (fun k => W0.heap.size ≤ k) 3 1 vlb (labsOf code code.length).length (nums (labsOf code code.length))
  th : Has w' (fun k => W0.heap.size ≤ k) 140 658 vt nt ((List.replicate nt rt0).flatMap Rt.cells)
  st : Has w' (fun k => W0.heap.size ≤ k) 65 1 vst ns (nums (stsOf us ns))
  ho : Has w' (fun k => W0.heap.size ≤ k) 3 1 vho ns (nums (List.replicate ns (-1)))
  li : Has w' (fun k => W0.heap.size ≤ k) 69 1 vli nr (List.replicate nr nilS)
  ap : ∀ k, vlb.ownBlock = some k → vho.ownBlock ≠ some k
set_option maxRecDepth 100000 in
set_option maxHeartbeats 4000000 in
theorem New_any (W0 : World) (nt nr ns : Nat) (us c2 c3 c4 c6 : Int) (hnt : nt ≤ 100000) (hnr : nr ≤ 100000) (hns : ns ≤ 100000) (a : Option Addr) (n cap : Nat) (ws : List Int) (hs : Src W0 a n cap ws) (hn : n ≤ 8192) {gd cd ne : Nat} {code : List Ins} {S : Nat → Prop} {ae : Option Addr} {ce : Nat}
    (hcd : Has W0 S 173 6 (.slice (some ⟨gd, 0, none⟩) code.length cd) code.length (code.flatMap Ins.cells)) (hcode : ∀ I ∈ code, I.kd = 10 → ∃ l : Nat, I.a = l ∧ l ≤ 1000) :
    Calls Tryz.prog 53 #[.agg #[.int .i64 (nt : Int), .int .i64 (nr : Int), .int .i64 c2, .int .i64 c3, .int .i64 c4, .int .i64 (ns : Int), .int .i64 c6], .int .i64 us, .slice a n cap, .slice (some ⟨gd, 0, none⟩) code.length cd, .slice ae ne ce] W0 fun e w' => ∃ b vw vlb vt vst vho vli, e = .returned (.pointer (some ⟨b, 0, none⟩)) ∧ Nw W0 w' nt nr ns b us c2 c3 c4 c6 ws code (.slice (some ⟨gd, 0, none⟩) code.length cd) (.slice ae ne ce) vw vlb vt vst vho vli := by
  obtain ⟨i0, hi, hz0, hz1, hz2⟩ := info_parts info_u64
  have hwn := hs.1
  subst hwn
  have nws := fun (W : World) (hB : Below W0.heap.size W0 W) => (hs.below hB).news
  have BE : ∀ o : Obj, Below W0.heap.size W0 (W0.alloc o).drew := fun o => ((Below.refl _ _).alloc (Nat.le_refl _) o).drew
  have FN := fun (o : Obj) (w1 : World) (v : Value) (m : Obj) (hv : Has w1 (fun k => W0.heap.size < k) 92 1 v ws.length (wrd ws)) (hg : (W0.alloc o).drew.grownBy w1 none) => (show w1.heap[W0.heap.size]? = some o ∧ Below W0.heap.size W0 (w1.alloc m) ∧ (w1.alloc m).heap[W0.heap.size]? = some o ∧ W0.heap.size ≤ w1.heap.size ∧ Has (w1.alloc m) (fun k => W0.heap.size < k) 92 1 v ws.length (wrd ws) from by
    have h1 : Below W0.heap.size W0 w1 := (BE o).grown hg (by simp) (fun k hk => by cases hk)
    have hsz : W0.heap.size < w1.heap.size := by have := hg.size; simp at this; omega
    have k0 : w1.heap[W0.heap.size]? = some o := (hg.block _ (by simp) (fun e => by cases e)).trans (heap_alloc_new W0 o)
    refine ⟨k0, h1.alloc h1.size m, (Below.heap_alloc _ _ _ hsz).trans ((hg.block _ (by simp) (fun e => by cases e)).trans (heap_alloc_new W0 o)), h1.size, hv.alloc m⟩)
  have hwl : (wrd ws).length = ws.length * 1 := by simp [wrd]
  have ha0 := hs.news.1
  have hone := wrd_one' ws
  replace nws := Mr.hid nws
  replace BE := Mr.hid BE
  replace FN := Mr.hid FN
  replace hcd := Mr.hid hcd
  replace hcode := Mr.hid hcode
  replace hone := Mr.hid hone
  replace hs := Mr.hid hs
  go_enter Tryz.func53, Tryz.ntmps53
  go_upto_region 1 with fail
  go_cut [11] (fun z wx => ∃ b pv qv, z = .pointer (some ⟨b, 0, none⟩) ∧ Below W0.heap.size W0 wx ∧ wx.heap[W0.heap.size]? = some (.cells #[.int .i64 (nt : Int), .int .i64 (nr : Int), .int .i64 c2, .int .i64 c3, .int .i64 c4, .int .i64 (ns : Int), .int .i64 c6] 23 (0, 0)) ∧ W0.heap.size ≤ b ∧ wx.heap[b]? = some (.cells #[.int .i64 (nt : Int), .int .i64 (nr : Int), .int .i64 c2, .int .i64 c3, .int .i64 c4, .int .i64 (ns : Int), .int .i64 c6, .slice pv ws.length qv, .slice (some ⟨gd, 0, none⟩) code.length cd, nilS, .slice ae ne ce, nilS, nilS, nilS, nilS, u0, u0, u0, u0, u0, u0, u0, u0, .int .i64 0, nilS, nilS, nilS] 135 (0, 0)) ∧ Has wx (fun k => W0.heap.size < k) 92 1 (.slice pv ws.length qv) ws.length (wrd ws))
  case first =>
    go_region_law (refine step_append_fresh _ rfl (.const (.slice none 0 0)) (.tmp 19) 28 rfl (fun k => W0.heap.size < k) 92 i0 _ 1 8 Tryz.underlying28 hi hz0 hz1 hz2 rfl rfl a ws.length cap (wrd ws) (by first | rfl | simp [Act.eval, Act.put]) hwl ha0 (nws.out _ (BE.out _)).2 hone.out (by unfold maxLen; omega) (by omega) (by simp) ?_; intro v w1 hv hg hat; have F9 := fun m => FN.out (.cells #[.int .i64 (nt : Int), .int .i64 (nr : Int), .int .i64 c2, .int .i64 c3, .int .i64 c4, .int .i64 (ns : Int), .int .i64 c6] 23) w1 v m hv hg; have k0 := (F9 (.cells #[] 0)).1; have kk : w1.cell? ⟨W0.heap.size, 0, none⟩ = some (.int .i64 (nt : Int)) ∧ w1.cell? ⟨W0.heap.size, 1, none⟩ = some (.int .i64 (nr : Int)) ∧ w1.cell? ⟨W0.heap.size, 2, none⟩ = some (.int .i64 c2) ∧ w1.cell? ⟨W0.heap.size, 3, none⟩ = some (.int .i64 c3) ∧ w1.cell? ⟨W0.heap.size, 4, none⟩ = some (.int .i64 c4) ∧ w1.cell? ⟨W0.heap.size, 5, none⟩ = some (.int .i64 (ns : Int)) ∧ w1.cell? ⟨W0.heap.size, 6, none⟩ = some (.int .i64 c6) := (by simp [World.cell?, k0]); obtain ⟨kk0, kk1, kk2, kk3, kk4, kk5, kk6⟩ := kk; obtain ⟨pv, qv, rfl, _⟩ := hv.form; have hsz1 := hg.size; replace F9 := Mr.hid F9; clear hv hg hat k0)
    all_goals go_wp2
    all_goals go_meet
    all_goals (obtain ⟨_, r1, r2, r3, r4⟩ := F9.out _; exact ⟨_, _, _, rfl, r1, r2, r3, heap_alloc_new _ _, r4⟩)
  case rest =>
    obtain ⟨b, pv, qv, rfl, r1, r2, r3, r4, r5⟩ := hcut
    go_step
    refine wp_mono (new_labels (W0 := W0) (R := fun w' => ∃ vw vlb vt vst vho vli, Nw W0 w' nt nr ns b us c2 c3 c4 c6 ws code (.slice (some ⟨gd, 0, none⟩) code.length cd) (.slice ae ne ce) vw vlb vt vst vho vli) hnt hnr hns r2 r4 r3 r1 hcd.out hcode.out (fun w' vt vst vho vli vlb g1 g2 g3 g4 g5 g6 g7 g8 g9 => ?_)) (fun x a' w' => bodyPost_imp (fun e w' ⟨h1, vw, vlb, vt, vst, vho, vli, h2⟩ => ⟨b, vw, vlb, vt, vst, vho, vli, h1, h2⟩) x a' w')
    have hs1 := r1.size
    have nvb : (Value.slice pv ws.length qv).ownBlock ≠ some b := not_row r4 r5 (by decide)
    refine ⟨_, vlb, vt, vst, vho, vli, g1, r3, g3, ?_, g4.mono (fun k hk => by omega), g5.mono (fun k hk => by omega), g6.mono (fun k hk => by omega), g7.mono (fun k hk => by omega), g8.mono (fun k hk => by omega), g9⟩
    exact (r5.kept (fun k hk => g2.block k (r5.lt k hk).2 (fun e => nvb (by rw [hk, e]))) (fun k hk => (r5.lt k hk).1)).mono (fun k hk => by omega)
end Go.Proofs.YtkimmfdicohoiaaGreat.Rf
/-
  THE DOCUMENT's ARENA: its code and its entries.
-/
namespace Go.Proofs.YtkimmfdicohoiaaGreat.Rf
open Go.RowKit Mr Me Ma
set_option linter.unusedVariables false
def takingL : List Ins := [⟨10, 10, 0, 0, 0, 0⟩, ⟨31, 30, 0, 0, 0, 15⟩, ⟨30, 30, 0, 0, 2, 0⟩, ⟨13, 0, 0, 0, 0, 0⟩, ⟨10, 15, 0, 0, 0, 0⟩, ⟨1, 31, 1, 47, 0, 0⟩, ⟨23, 31, 0, 0, 0, 16⟩, ⟨18, 32, 31, 0, 0, 0⟩, ⟨1, 33, 10, 32, 0, 0⟩, ⟨18, 33, 33, 0, 0, 0⟩, ⟨22, 35, 31, 33, 0, 0⟩, ⟨3, 31, 1, 47, 35, 15⟩, ⟨16, 30, 32, 0, 0, 0⟩, ⟨30, 30, 0, 0, 2, 0⟩, ⟨13, 0, 0, 0, 0, 0⟩, ⟨10, 16, 0, 0, 0, 0⟩, ⟨15, 30, 0, 0, -1, 0⟩, ⟨13, 0, 0, 0, 0, 0⟩]
def linkL (l : Int) : List Ins := [⟨10, l, 0, 0, 0, 0⟩, ⟨1, 31, 1, 47, 0, 0⟩, ⟨18, 32, 31, 0, 0, 0⟩, ⟨19, 33, 32, 0, 0, 0⟩, ⟨2, 33, 10, 34, 0, 0⟩, ⟨22, 35, 31, 34, 0, 0⟩, ⟨3, 31, 1, 47, 35, l⟩, ⟨30, 34, 0, 0, 0, 0⟩]
def givingL : List Ins := [⟨10, 11, 0, 0, 0, 0⟩, ⟨32, 34, 0, 0, 0, 17⟩, ⟨30, 34, 0, 0, 1, 0⟩, ⟨13, 0, 0, 0, 0, 0⟩] ++ linkL 17 ++ [⟨13, 0, 0, 0, 0, 0⟩]
def flushingL : List Ins := [⟨10, 12, 0, 0, 0, 0⟩, ⟨33, 34, 0, 0, 0, 19⟩] ++ linkL 18 ++ [⟨34, 0, 0, 0, 0, 0⟩, ⟨11, 0, 0, 0, 0, 12⟩, ⟨10, 19, 0, 0, 0, 0⟩, ⟨13, 0, 0, 0, 0, 0⟩]
def callsL : List Ins := [⟨10, 20, 0, 0, 0, 0⟩, ⟨12, 0, 0, 0, 0, 10⟩, ⟨26, 30, 47, 0, 0, 22⟩, ⟨14, 30, 0, 0, 2, 0⟩, ⟨10, 22, 0, 0, 0, 0⟩, ⟨14, 0, 0, 0, 4, 0⟩, ⟨10, 21, 0, 0, 0, 0⟩, ⟨48, 34, 0, 0, 0, 0⟩, ⟨12, 0, 0, 0, 0, 11⟩, ⟨14, 0, 0, 0, 1, 0⟩, ⟨10, 23, 0, 0, 0, 0⟩, ⟨12, 0, 0, 0, 0, 12⟩, ⟨14, 0, 0, 0, 1, 0⟩]
def code4 : List Ins := takingL ++ givingL ++ flushingL ++ callsL
def ens4 : List En := [⟨10, 20, 0⟩, ⟨11, 21, 4⟩, ⟨12, 23, 0⟩]
theorem code4_len : code4.length = 58 := rfl
/-- A new row of instructions. -/
def IsCode (W w' : World) (v : Value) (l : List Ins) : Prop := Below W.heap.size W w' ∧ Has w' (fun k => W.heap.size ≤ k) 173 6 v l.length (l.flatMap Ins.cells)
theorem info_ins : (Tryz.prog.info? 173).map (fun i => (i.zero, i.size, i.bytes)) = some (some (.agg #[.int .i64 0, .int .i64 0, .int .i64 0, .int .i64 0, .int .i64 0, .int .i64 0]), 6, 48) := by kernel_rfl
theorem new_code (W : World) (l : List Ins) (n : Nat) (hn : l.length = n) (hm : n ≤ maxLen) (xs : List Value) (hx : l.flatMap Ins.cells = xs) : IsCode W (W.alloc (.cells xs.toArray 173)) (.slice (some ⟨W.heap.size, 0, none⟩) n n) l := by
  subst hx
  refine ⟨(Below.refl _ _).alloc (Nat.le_refl _) _, ?_, .inr ⟨W.heap.size, n, (l.flatMap Ins.cells).toArray, by rw [hn], Nat.le_refl _, heap_alloc_new _ _, by omega, hm, ?_, ?_⟩⟩
  · rw [flat_length ins_len]
  · rw [List.size_toArray, flat_length ins_len, hn]; exact Nat.le_refl _
  · rw [List.take_of_length_le (by rw [flat_length ins_len, hn]; omega)]
set_option maxRecDepth 100000 in
set_option maxHeartbeats 4000000 in
theorem taking_any (W : World) : Calls Tryz.prog 82 #[] W fun e w' => ∃ g, e = .returned (.slice (some ⟨g, 0, none⟩) 18 18) ∧ IsCode W w' (.slice (some ⟨g, 0, none⟩) 18 18) takingL := by
  go_enter Tryz.func82, Tryz.ntmps82
  go_wp2
  go_ret
  exact ⟨_, rfl, new_code W takingL 18 rfl (by decide) _ rfl⟩
set_option maxRecDepth 100000 in
set_option maxHeartbeats 4000000 in
theorem link_any (W : World) (l : Int) : Calls Tryz.prog 115 #[.int .i64 l] W fun e w' => ∃ g, e = .returned (.slice (some ⟨g, 0, none⟩) 8 8) ∧ IsCode W w' (.slice (some ⟨g, 0, none⟩) 8 8) (linkL l) := by
  go_enter Tryz.func115, Tryz.ntmps115
  go_wp2
  go_ret
  exact ⟨_, rfl, new_code W (linkL l) 8 rfl (by decide) _ rfl⟩
set_option maxRecDepth 100000 in
set_option maxHeartbeats 4000000 in
theorem calls_any (W : World) : Calls Tryz.prog 85 #[] W fun e w' => ∃ g, e = .returned (.slice (some ⟨g, 0, none⟩) 13 13) ∧ IsCode W w' (.slice (some ⟨g, 0, none⟩) 13 13) callsL := by
  go_enter Tryz.func85, Tryz.ntmps85
  go_wp2
  go_ret
  exact ⟨_, rfl, new_code W callsL 13 rfl (by decide) _ rfl⟩
end Go.Proofs.YtkimmfdicohoiaaGreat.Rf
/-
  THE DOCUMENT's ARENA: its code, put together; its entries.
-/
namespace Go.Proofs.YtkimmfdicohoiaaGreat.Rf
open Go.RowKit Mr Me Ma
set_option linter.unusedVariables false
theorem has_news {w : World} {S : Nat → Prop} {e : TypeId} {sz g n c : Nat} {xs : List Value} (h : Has w S e sz (.slice (some ⟨g, 0, none⟩) n c) n xs) : ∀ j u, xs[j]? = some u → w.cell? ((⟨g, 0, none⟩ : Addr).add j) = some u := fun j u hu => by
  have hadd : (⟨g, 0, none⟩ : Addr).add j = ⟨g, j, none⟩ := by unfold Addr.add; split <;> simp_all
  rw [hadd]; exact h.cells (g := g) rfl j u hu
theorem ins_one (l : List Ins) : ∀ u ∈ l.flatMap Ins.cells, u.oneCell' = true := by
  intro u hu
  obtain ⟨x, _, hx⟩ := List.mem_flatMap.1 hu
  simp only [Ins.cells, List.mem_cons, List.not_mem_nil, or_false] at hx
  rcases hx with rfl | rfl | rfl | rfl | rfl | rfl <;> rfl
theorem IsCode.more {W w w3 : World} {v : Value} {l1 l2 : List Ins} {g cap' n : Nat} (h : IsCode W w v l1) (hn : (l1 ++ l2).length = n) (hown : Has w3 (fun k => W.heap.size ≤ k) 173 6 (.slice (some ⟨g, 0, none⟩) n cap') n (l1.flatMap Ins.cells ++ l2.flatMap Ins.cells)) (hgrow : w.grownBy w3 v.ownBlock) : IsCode W w3 (.slice (some ⟨g, 0, none⟩) n cap') (l1 ++ l2) := by
  refine ⟨h.1.grown hgrow h.1.size (fun k hk => (h.2.lt k hk).1), ?_⟩
  rw [hn, List.flatMap_append]
  exact hown
theorem IsCode.below {W w w2 : World} {v : Value} {l : List Ins} (h : IsCode W w v l) (hB : Below w.heap.size w w2) : IsCode W w2 v l := ⟨h.1.trans (hB.mono h.1.size), h.2.below hB⟩
set_option maxRecDepth 100000 in
set_option maxHeartbeats 4000000 in
theorem giving_any (W : World) : Calls Tryz.prog 83 #[] W fun e w' => ∃ g c, e = .returned (.slice (some ⟨g, 0, none⟩) 13 c) ∧ IsCode W w' (.slice (some ⟨g, 0, none⟩) 13 c) givingL := by
  obtain ⟨i0, hi, hz0, hz1, hz2⟩ := info_parts info_ins
  have I1 := new_code W [⟨10, 11, 0, 0, 0, 0⟩, ⟨32, 34, 0, 0, 0, 17⟩, ⟨30, 34, 0, 0, 1, 0⟩, ⟨13, 0, 0, 0, 0, 0⟩] 4 rfl (by decide) _ rfl
  replace I1 := Mr.hid I1
  go_enter Tryz.func83, Tryz.ntmps83
  go_wp2_with (first
    | (go_at_call 115; refine (link_any _ _).mono ?_; rintro e w2 ⟨g2, rfl, I2⟩; replace I2 := Mr.hid I2)
    | (at_builtin; refine wpList_append_has _ rfl (.tmp 7) (.tmp 8) 125 rfl (fun k => W.heap.size ≤ k) 173 i0 _ 6 48 Tryz.underlying125 hi hz0 hz1 hz2 rfl (.slice (some ⟨W.heap.size, 0, none⟩) 4 4) 4 _ rfl (I1.out.below I2.out.1).2 ⟨g2, 0, none⟩ 8 8 ((linkL 17).flatMap Ins.cells) rfl rfl (has_news I2.out.2) (ins_one _) (by omega) (by decide) (by decide) (by have := (I1.out.below I2.out.1).1.size; omega) ?_; intro g3 cap3 w3 hown hgrow hat; have I3 := Mr.hid ((I1.out.below I2.out.1).more (n := 12) (l2 := linkL 17) rfl hown hgrow); clear hown hgrow hat)
    | (at_builtin; refine wpList_append_has _ rfl (.tmp 10) (.tmp 12) 125 rfl (fun k => W.heap.size ≤ k) 173 i0 _ 6 48 Tryz.underlying125 hi hz0 hz1 hz2 rfl (.slice (some ⟨g3, 0, none⟩) 12 cap3) 12 _ rfl (I3.out.below ((Below.refl _ _).alloc (Nat.le_refl _) _)).2 ⟨w3.heap.size, 0, none⟩ 1 1 (([⟨13, 0, 0, 0, 0, 0⟩]).flatMap Ins.cells) rfl rfl (newsAt w3 _ ((([⟨13, 0, 0, 0, 0, 0⟩] : List Ins).flatMap Ins.cells).toArray) 173 _ rfl rfl) (ins_one _) (by omega) (by decide) (by decide) (by have := I3.out.1.size; simp; omega) ?_; intro g4 cap4 w4 hown hgrow hat; have I4 := Mr.hid ((I3.out.below ((Below.refl _ _).alloc (Nat.le_refl _) _)).more (n := 13) (l2 := [⟨13, 0, 0, 0, 0, 0⟩]) rfl hown hgrow); clear hown hgrow hat))
  go_ret
  exact ⟨_, _, rfl, I4.out⟩
set_option maxRecDepth 100000 in
set_option maxHeartbeats 4000000 in
theorem flushing_any (W : World) : Calls Tryz.prog 84 #[] W fun e w' => ∃ g c, e = .returned (.slice (some ⟨g, 0, none⟩) 14 c) ∧ IsCode W w' (.slice (some ⟨g, 0, none⟩) 14 c) flushingL := by
  obtain ⟨i0, hi, hz0, hz1, hz2⟩ := info_parts info_ins
  have I1 := new_code W [⟨10, 12, 0, 0, 0, 0⟩, ⟨33, 34, 0, 0, 0, 19⟩] 2 rfl (by decide) _ rfl
  replace I1 := Mr.hid I1
  go_enter Tryz.func84, Tryz.ntmps84
  go_wp2_with (first
    | (go_at_call 115; refine (link_any _ _).mono ?_; rintro e w2 ⟨g2, rfl, I2⟩; replace I2 := Mr.hid I2)
    | (at_builtin; refine wpList_append_has _ rfl (.tmp 5) (.tmp 6) 125 rfl (fun k => W.heap.size ≤ k) 173 i0 _ 6 48 Tryz.underlying125 hi hz0 hz1 hz2 rfl (.slice (some ⟨W.heap.size, 0, none⟩) 2 2) 2 _ rfl (I1.out.below I2.out.1).2 ⟨g2, 0, none⟩ 8 8 ((linkL 18).flatMap Ins.cells) rfl rfl (has_news I2.out.2) (ins_one _) (by omega) (by decide) (by decide) (by have := (I1.out.below I2.out.1).1.size; omega) ?_; intro g3 cap3 w3 hown hgrow hat; have I3 := Mr.hid ((I1.out.below I2.out.1).more (n := 10) (l2 := linkL 18) rfl hown hgrow); clear hown hgrow hat)
    | (at_builtin; refine wpList_append_has _ rfl (.tmp 8) (.tmp 13) 125 rfl (fun k => W.heap.size ≤ k) 173 i0 _ 6 48 Tryz.underlying125 hi hz0 hz1 hz2 rfl (.slice (some ⟨g3, 0, none⟩) 10 cap3) 10 _ rfl (I3.out.below ((Below.refl _ _).alloc (Nat.le_refl _) _)).2 ⟨w3.heap.size, 0, none⟩ 4 4 (([⟨34, 0, 0, 0, 0, 0⟩, ⟨11, 0, 0, 0, 0, 12⟩, ⟨10, 19, 0, 0, 0, 0⟩, ⟨13, 0, 0, 0, 0, 0⟩]).flatMap Ins.cells) rfl rfl (newsAt w3 _ ((([⟨34, 0, 0, 0, 0, 0⟩, ⟨11, 0, 0, 0, 0, 12⟩, ⟨10, 19, 0, 0, 0, 0⟩, ⟨13, 0, 0, 0, 0, 0⟩] : List Ins).flatMap Ins.cells).toArray) 173 _ rfl rfl) (ins_one _) (by omega) (by decide) (by decide) (by have := I3.out.1.size; simp; omega) ?_; intro g4 cap4 w4 hown hgrow hat; have I4 := Mr.hid ((I3.out.below ((Below.refl _ _).alloc (Nat.le_refl _) _)).more (n := 14) (l2 := [⟨34, 0, 0, 0, 0, 0⟩, ⟨11, 0, 0, 0, 0, 12⟩, ⟨10, 19, 0, 0, 0, 0⟩, ⟨13, 0, 0, 0, 0, 0⟩]) rfl hown hgrow); clear hown hgrow hat))
  go_ret
  exact ⟨_, _, rfl, I4.out⟩
set_option maxRecDepth 100000 in
set_option maxHeartbeats 4000000 in
theorem Code_any (W : World) : Calls Tryz.prog 54 #[] W fun e w' => ∃ g c, e = .returned (.slice (some ⟨g, 0, none⟩) 58 c) ∧ IsCode W w' (.slice (some ⟨g, 0, none⟩) 58 c) code4 := by
  obtain ⟨i0, hi, hz0, hz1, hz2⟩ := info_parts info_ins
  go_enter Tryz.func54, Tryz.ntmps54
  go_wp2_with (first
    | (go_at_call 82; refine (taking_any _).mono ?_; rintro e w1 ⟨g1, rfl, I1⟩; replace I1 := Mr.hid I1)
    | (go_at_call 83; refine (giving_any _).mono ?_; rintro e w2 ⟨g2, c2, rfl, I2⟩; replace I2 := Mr.hid I2)
    | (go_at_call 84; refine (flushing_any _).mono ?_; rintro e w4 ⟨g4, c4, rfl, I4⟩; replace I4 := Mr.hid I4)
    | (go_at_call 85; refine (calls_any _).mono ?_; rintro e w6 ⟨g6, rfl, I6⟩; replace I6 := Mr.hid I6)
    | (at_builtin; refine wpList_append_has _ rfl (.tmp 3) (.tmp 4) 125 rfl (fun k => W.heap.size ≤ k) 173 i0 _ 6 48 Tryz.underlying125 hi hz0 hz1 hz2 rfl (.slice (some ⟨g1, 0, none⟩) 18 18) 18 _ rfl (I1.out.below I2.out.1).2 ⟨g2, 0, none⟩ 13 c2 ((givingL).flatMap Ins.cells) rfl rfl (has_news I2.out.2) (ins_one _) (by omega) (by decide) (by decide) (by have := (I1.out.below I2.out.1).1.size; omega) ?_; intro g3 cap3 w3 hown hgrow hat; have I3 := Mr.hid ((I1.out.below I2.out.1).more (n := 31) (l2 := givingL) rfl hown hgrow); clear hown hgrow hat)
    | (at_builtin; refine wpList_append_has _ rfl (.tmp 6) (.tmp 7) 125 rfl (fun k => W.heap.size ≤ k) 173 i0 _ 6 48 Tryz.underlying125 hi hz0 hz1 hz2 rfl (.slice (some ⟨g3, 0, none⟩) 31 cap3) 31 _ rfl (I3.out.below I4.out.1).2 ⟨g4, 0, none⟩ 14 c4 ((flushingL).flatMap Ins.cells) rfl rfl (has_news I4.out.2) (ins_one _) (by omega) (by decide) (by decide) (by have := (I3.out.below I4.out.1).1.size; omega) ?_; intro g5 cap5 w5 hown hgrow hat; have I5 := Mr.hid ((I3.out.below I4.out.1).more (n := 45) (l2 := flushingL) rfl hown hgrow); clear hown hgrow hat)
    | (at_builtin; refine wpList_append_has _ rfl (.tmp 9) (.tmp 10) 125 rfl (fun k => W.heap.size ≤ k) 173 i0 _ 6 48 Tryz.underlying125 hi hz0 hz1 hz2 rfl (.slice (some ⟨g5, 0, none⟩) 45 cap5) 45 _ rfl (I5.out.below I6.out.1).2 ⟨g6, 0, none⟩ 13 13 ((callsL).flatMap Ins.cells) rfl rfl (has_news I6.out.2) (ins_one _) (by omega) (by decide) (by decide) (by have := (I5.out.below I6.out.1).1.size; omega) ?_; intro g7 cap7 w7 hown hgrow hat; have I7 := Mr.hid ((I5.out.below I6.out.1).more (n := 58) (l2 := callsL) rfl hown hgrow); clear hown hgrow hat))
  go_ret
  exact ⟨_, _, rfl, I7.out⟩
set_option maxRecDepth 100000 in
set_option maxHeartbeats 4000000 in
theorem Entries_any (W : World) : Calls Tryz.prog 55 #[] W fun e w' => ∃ g, e = .returned (.slice (some ⟨g, 0, none⟩) 3 3) ∧ Below W.heap.size W w' ∧ Has w' (fun k => W.heap.size ≤ k) 175 3 (.slice (some ⟨g, 0, none⟩) 3 3) 3 (ens4.flatMap En.cells) := by
  go_enter Tryz.func55, Tryz.ntmps55
  go_wp2
  go_ret
  exact ⟨_, rfl, (Below.refl _ _).alloc (Nat.le_refl _) _, rfl, .inr ⟨W.heap.size, 3, (ens4.flatMap En.cells).toArray, rfl, Nat.le_refl _, heap_alloc_new W _, Nat.le_refl _, by decide, by decide, rfl⟩⟩
end Go.Proofs.YtkimmfdicohoiaaGreat.Rf
