import Derived.Test.YtnapnhmmopajfaaGreatChecked
import Derived.WalkKit
import Derived.WalkSpells
import Derived.WalkLawsBesides
import Derived.OpenShut
import Derived.Outline
import Derived.Below
import Derived.Deep.MidRow
import Derived.Deep.DeepCutAuto
import Derived.Deep.RegionHeld3
import Derived.Deep.Upon
import Derived.Test.YtnapnhmmopajfaaGreatJ01
import Derived.BigQuiet
/-
  DEQUE: rows that may be read; Left, without the model.
-/
namespace Go.Proofs.YtnapnhmmopajfaaGreat.Dq
open Go.RowKit Mr
set_option linter.unusedVariables false
set_option linter.unusedSimpArgs false
set_option maxRecDepth 100000
theorem i64x (x : Int) (h1 : -9223372036854775808 ≤ x) (h2 : x ≤ 9223372036854775807) : IntKind.i64.wrap x = x := by
  rw [IntKind.wrap_i64]; omega
theorem new_at (W : World) (o : Obj) (k : Nat) (hk : k = W.heap.size) : (W.alloc o).heap[k]? = some o := by subst hk; exact heap_alloc_new W o
theorem cell_blk {W : World} {b : Nat} {cs : Array Value} {t : TypeId} {fr : Nat × Nat} (h : W.heap[b]? = some (.cells cs t fr)) (k : Nat) : W.cell? ⟨b, k, none⟩ = cs[k]? := by
  simp [World.cell?, h]
theorem take_succ_of {α : Type} {l : List α} {i : Nat} {x : α} (h : l[i]? = some x) : l.take (i + 1) = l.take i ++ [x] := by
  rw [List.take_add_one, h]; rfl
theorem draws' {w W : World} (h : Below w.heap.size w W) (n : Nat) : Below w.heap.size w (W.drewN n) := h.trans ⟨rfl, rfl, rfl, Nat.le_refl _, fun _ _ => rfl⟩
theorem add1 (b o j : Nat) : (⟨b, o, none⟩ : Addr).add j = ⟨b, o + j, none⟩ := by unfold Addr.add; split <;> simp_all
/-- A slice that reads as numbers. -/
def IsAt (W : World) (a : Option Addr) (n : Nat) (xs : List Int) : Prop :=
  n = xs.length ∧ (xs = [] ∨ ∃ b o, a = some ⟨b, o, none⟩ ∧ b < W.heap.size ∧ ∀ j x, xs[j]? = some x → W.cell? ⟨b, o + j, none⟩ = some (.int .i64 x))
/-- A slice that reads as words. -/
def WdAt (W : World) (a : Option Addr) (n : Nat) (xs : List Int) : Prop :=
  n = xs.length ∧ (xs = [] ∨ ∃ b o, a = some ⟨b, o, none⟩ ∧ b < W.heap.size ∧ ∀ j x, xs[j]? = some x → W.cell? ⟨b, o + j, none⟩ = some (.int .u64 x))
theorem IsAt.below {W W' : World} {a : Option Addr} {n : Nat} {xs : List Int} (h : IsAt W a n xs) (hB : Below W.heap.size W W') : IsAt W' a n xs := by
  refine ⟨h.1, ?_⟩
  rcases h.2 with h | ⟨b, o, rfl, hl, hc⟩
  · exact .inl h
  · exact .inr ⟨b, o, rfl, Nat.lt_of_lt_of_le hl hB.size, fun j x hx => (hB.cell (p := ⟨b, _, none⟩) hl).trans (hc j x hx)⟩
theorem WdAt.below {W W' : World} {a : Option Addr} {n : Nat} {xs : List Int} (h : WdAt W a n xs) (hB : Below W.heap.size W W') : WdAt W' a n xs := by
  refine ⟨h.1, ?_⟩
  rcases h.2 with h | ⟨b, o, rfl, hl, hc⟩
  · exact .inl h
  · exact .inr ⟨b, o, rfl, Nat.lt_of_lt_of_le hl hB.size, fun j x hx => (hB.cell (p := ⟨b, _, none⟩) hl).trans (hc j x hx)⟩
def intsV (xs : List Int) : List Value := xs.map (Value.int .i64)
def wdsV (xs : List Int) : List Value := xs.map (Value.int .u64)
theorem intsV_one (xs : List Int) : ∀ u ∈ intsV xs, u.oneCell' = true := by
  intro u hu
  simp only [intsV, List.mem_map] at hu
  obtain ⟨x, _, rfl⟩ := hu
  rfl
theorem wdsV_one (xs : List Int) : ∀ u ∈ wdsV xs, u.oneCell' = true := by
  intro u hu
  simp only [wdsV, List.mem_map] at hu
  obtain ⟨x, _, rfl⟩ := hu
  rfl
theorem info_of {t : TypeId} {z : Value} {sz by' : Nat} (h : (Tryz.prog.info? t).map (fun i => (i.zero, i.size, i.bytes)) = some (some z, sz, by')) : ∃ i, Tryz.prog.info? t = some i ∧ i.zero = some z ∧ i.size = sz ∧ i.bytes = by' := by
  cases hi : Tryz.prog.info? t with
  | none => rw [hi] at h; cases h
  | some i => rw [hi] at h; simp at h; exact ⟨i, rfl, h.1, h.2.1, h.2.2⟩
theorem info_i : ∃ i, Tryz.prog.info? 3 = some i ∧ i.zero = some (.int .i64 0) ∧ i.size = 1 ∧ i.bytes = 8 := info_of (by kernel_rfl)
theorem info_w : ∃ i, Tryz.prog.info? 63 = some i ∧ i.zero = some (.int .u64 0) ∧ i.size = 1 ∧ i.bytes = 8 := info_of (by kernel_rfl)
theorem has_is {W : World} {S : Nat → Prop} {a : Option Addr} {n c : Nat} {xs : List Int} (h : Has W S 3 1 (.slice a n c) n (intsV xs)) : IsAt W a n xs := by
  have hl := h.1
  simp only [intsV, List.length_map, Nat.mul_one] at hl
  by_cases h0 : 0 < n
  · obtain ⟨g, c', e, -, hg, -, -⟩ := h.there h0
    cases e
    exact ⟨hl.symm, .inr ⟨g, 0, rfl, hg, fun j x hx => by rw [Nat.zero_add]; exact h.cells (g := g) rfl j _ (by simp [intsV, hx])⟩⟩
  · exact ⟨hl.symm, .inl (List.eq_nil_of_length_eq_zero (by omega))⟩
theorem has_wd {W : World} {S : Nat → Prop} {a : Option Addr} {n c : Nat} {xs : List Int} (h : Has W S 63 1 (.slice a n c) n (wdsV xs)) : WdAt W a n xs := by
  have hl := h.1
  simp only [wdsV, List.length_map, Nat.mul_one] at hl
  by_cases h0 : 0 < n
  · obtain ⟨g, c', e, -, hg, -, -⟩ := h.there h0
    cases e
    exact ⟨hl.symm, .inr ⟨g, 0, rfl, hg, fun j x hx => by rw [Nat.zero_add]; exact h.cells (g := g) rfl j _ (by simp [wdsV, hx])⟩⟩
  · exact ⟨hl.symm, .inl (List.eq_nil_of_length_eq_zero (by omega))⟩
theorem run_append_zero {P : Program} (w : World) (t ty e : TypeId) (i : TypeInfo) (ht : P.underlying t = some (.slice e)) (hi : P.info? e = some i) (base : Option Addr) (sLen sCap : Nat) (hle : sLen ≤ sCap) (a0 : Option Addr) (c : Nat) :
    (Builtin.append_ #[t, t] ty #[.slice base sLen sCap, .slice a0 0 c]).run P w = .ok (.slice base sLen sCap) w := by
  cases a0 with
  | none => exact run_append_nothing w t t ty e i ht hi base sLen sCap hle _ (Src.ofNil _ ht c)
  | some a => exact run_append_nothing w t t ty e i ht hi base sLen sCap hle _ (Src.ofSlice _ ht a 0 c [] (by simp) (by simp) (by simp))
theorem wp_append_zero {P : Program} {w : World} {o : Oper} {a : Act} {K : Act → World → Prop} {Q : Exit → Act → World → Prop} (s x : Operand) (t : TypeId)
    (ho : o.op = .call { callee := .builtin .append, args := #[s, x], argTypes := #[t, t] }) (e : TypeId) (i : TypeInfo) (ht : P.underlying t = some (.slice e)) (hi : P.info? e = some i)
    (base : Option Addr) (sLen sCap : Nat) (hle : sLen ≤ sCap) (hs : a.eval s = .slice base sLen sCap) (a0 : Option Addr) (c : Nat) (hx : a.eval x = .slice a0 0 c)
    (h : K (a.put o.dst (.slice base sLen sCap)) w) : o.wp P a w K Q := by
  have hr := run_append_zero (P := P) w t o.type e i ht hi base sLen sCap hle a0 c
  unfold Oper.wp execOp
  simp only [ho, resolve, invoke, builtin, Sem.run_bind, Sem.run_pure, Result.andThen_ok, List.map_toArray, List.map_cons, List.map_nil, hs, hx, hr]
  exact h
/-- append of words, some or none, onto an empty row of its own. -/
theorem wp_append_wd {w : World} {o : Oper} {a : Act} {K : Act → World → Prop} {Q : Exit → Act → World → Prop} (s x : Operand)
    (ho : o.op = .call { callee := .builtin .append, args := #[s, x], argTypes := #[31, 31] }) (B b : Nat) (hs : a.eval s = .slice (some ⟨b, 0, none⟩) 0 0) (hE : Has w (fun k => B ≤ k) 63 1 (.slice (some ⟨b, 0, none⟩) 0 0) 0 [])
    (a1 : Option Addr) (n1 k1 : Nat) (c : List Int) (hx : a.eval x = .slice a1 n1 k1) (hC : WdAt w a1 n1 c) (hz : n1 * 8 ≤ 140737488351232) (hB : B ≤ w.heap.size)
    (h : ∀ ga ca w', WdAt w' (some ⟨ga, 0, none⟩) n1 c → n1 ≤ ca → Below B w w' → K (a.put o.dst (.slice (some ⟨ga, 0, none⟩) n1 ca)) w') : o.wp Tryz.prog a w K Q := by
  obtain ⟨nn, hnn, hn0, hn1, hn2⟩ := info_w
  have hbl := hE.lt b rfl
  by_cases h0 : n1 = 0
  · subst h0
    have hc : c = [] := List.eq_nil_of_length_eq_zero (by have := hC.1; omega)
    refine wp_append_zero s x 31 ho 63 nn Tryz.underlying31 hnn _ 0 0 (Nat.le_refl _) hs _ _ hx ?_
    exact h b 0 w ⟨by rw [hc]; rfl, .inl hc⟩ (Nat.le_refl _) (Below.refl _ _)
  · have hne : c ≠ [] := fun e => h0 (by have := hC.1; rw [e] at this; simpa using this)
    obtain ⟨g, q, rfl, hg, hcc⟩ := hC.2.resolve_left hne
    have hl := hC.1
    refine wp_append_has _ s x 31 ho (fun k => B ≤ k) 63 nn _ 1 8 Tryz.underlying31 hnn hn0 hn1 hn2 rfl _ 0 [] hs hE ⟨g, q, none⟩ n1 k1 (wdsV c) hx (by simp [wdsV, hl]) ?_ (wdsV_one c) (by omega) (by unfold maxLen; omega) (by omega) hB ?_
    · intro j u hu
      rw [add1]
      simp only [wdsV, List.getElem?_map] at hu
      cases hx : c[j]? with
      | none => rw [hx] at hu; cases hu
      | some y => rw [hx] at hu; cases hu; exact hcc j y hx
    · intro g2 cap2 w3 hh3 hgr hgg
      simp only [Nat.zero_add, List.nil_append] at hh3 ⊢
      obtain ⟨g9, cp9, hv9, -, hg9, hc9, -⟩ := hh3.there (by omega)
      cases hv9
      exact h g2 cap2 w3 (has_wd hh3) hc9 ((Below.refl _ _).grown hgr hB (fun k hk => (hE.lt k hk).1))
/-- May a deque be? -/
def dqB (th rm : Int) : Bool := decide (1 ≤ th) && decide (th ≤ 16) && decide (1 ≤ rm) && decide (rm ≤ 256)
def lfT (ws : List Int) : Int := wrap64 (ws.getD 0 0)
def lfB (ws : List Int) : Int := wrap64 (ws.getD 1 0)
def lfOk (rm : Int) (ws : List Int) : Prop := 0 ≤ lfT ws ∧ lfT ws ≤ 65536 ∧ lfT ws - 1 ≤ lfB ws ∧ lfB ws ≤ lfT ws + rm
instance (rm : Int) (ws : List Int) : Decidable (lfOk rm ws) := by unfold lfOk; infer_instance
def lfV (rm : Nat) (ws : List Int) (t i : Nat) : Int := wrap64 (ws.getD (2 + (t + i) % rm) 0)
def lfL (rm : Nat) (ws : List Int) (t n : Nat) : List Int := (List.range n).map (lfV rm ws t)
/-- What Left answers. -/
def lfR (th rm : Int) (ws : List Int) : List Int × Int := if dqB th rm = false then ([], 210) else if (ws.length : Int) ≠ 2 + rm then ([], 211) else if lfOk rm ws then (lfL rm.toNat ws (lfT ws).toNat (lfB ws - lfT ws).toNat, 0) else ([], 211)
def LfP (w w' : World) (x : List Int × Int) (e : Ending) : Prop := ∃ a c, e = .returned (.tuple #[.slice a x.1.length c, .int .i64 x.2]) ∧ IsAt w' a x.1.length x.1 ∧ Below w.heap.size w w'
theorem lfL_succ (rm : Nat) (ws : List Int) (t n : Nat) : lfL rm ws t (n + 1) = lfL rm ws t n ++ [lfV rm ws t n] := by simp [lfL, List.range_succ]
theorem wrap64_bd (x : Int) : -9223372036854775808 ≤ wrap64 x ∧ wrap64 x ≤ 9223372036854775807 := by
  unfold wrap64
  omega
end Go.Proofs.YtnapnhmmopajfaaGreat.Dq
/-
  DEQUE: the program's check, size, cellOf, and Left.
-/
namespace Go.Proofs.YtnapnhmmopajfaaGreat.Dq
open Go.RowKit Mr
set_option linter.unusedVariables false
set_option linter.unusedSimpArgs false
set_option maxRecDepth 100000
def dV (th rm : Int) : Value := .agg #[.int .i64 th, .int .i64 rm]
theorem bxd_0 (w : World) (th rm : Int) : (w.alloc (.cells #[.int .i64 th, .int .i64 rm] 23)).heap[w.heap.size]? = some (.cells #[.int .i64 th, .int .i64 rm] 23 (0, 0)) := new_at _ _ _ rfl
theorem bxd_below (w : World) (th rm : Int) : Below w.heap.size w (w.alloc (.cells #[.int .i64 th, .int .i64 rm] 23)) := (Below.refl _ _).alloc (Nat.le_refl _) _
set_option maxHeartbeats 4000000 in
theorem check_any (th rm : Int) (w : World) : Calls Tryz.prog 16 #[dV th rm] w fun e w' => e = .returned (.int .i64 (if dqB th rm = true then 0 else 210)) ∧ Below w.heap.size w w' := by
  have B0 := Mr.hid (bxd_below w th rm)
  have b0 := bxd_0 w th rm
  have c0 := cell_blk b0 0
  have c1 := cell_blk b0 1
  clear b0
  unfold dV
  by_cases h1 : th < 1
  · have d1 : decide (th < 1) = true := decide_eq_true h1
    have hd : dqB th rm = false := by unfold dqB; rw [decide_eq_false (by omega)]; rfl
    rw [hd, if_neg (by decide)]
    go_enter Tryz.func16, Tryz.ntmps16
    go_wp2
    go_ret
    exact ⟨rfl, B0.out⟩
  have d1 : decide (th < 1) = false := decide_eq_false h1
  by_cases h2 : 16 < th
  · have d2 : decide (16 < th) = true := decide_eq_true h2
    have hd : dqB th rm = false := by unfold dqB; rw [decide_eq_false (show ¬ th ≤ 16 by omega)]; simp
    rw [hd, if_neg (by decide)]
    go_enter Tryz.func16, Tryz.ntmps16
    go_wp2
    go_ret
    exact ⟨rfl, B0.out⟩
  have d2 : decide (16 < th) = false := decide_eq_false h2
  by_cases h3 : rm < 1
  · have d3 : decide (rm < 1) = true := decide_eq_true h3
    have hd : dqB th rm = false := by unfold dqB; rw [decide_eq_false (show ¬ 1 ≤ rm by omega)]; simp
    rw [hd, if_neg (by decide)]
    go_enter Tryz.func16, Tryz.ntmps16
    go_wp2
    go_ret
    exact ⟨rfl, B0.out⟩
  have d3 : decide (rm < 1) = false := decide_eq_false h3
  by_cases h4 : 256 < rm
  · have d4 : decide (256 < rm) = true := decide_eq_true h4
    have hd : dqB th rm = false := by unfold dqB; rw [decide_eq_false (show ¬ rm ≤ 256 by omega)]; simp
    rw [hd, if_neg (by decide)]
    go_enter Tryz.func16, Tryz.ntmps16
    go_wp2
    go_ret
    exact ⟨rfl, B0.out⟩
  have d4 : decide (256 < rm) = false := decide_eq_false h4
  have hd : dqB th rm = true := by unfold dqB; rw [decide_eq_true (show 1 ≤ th by omega), decide_eq_true (show th ≤ 16 by omega), decide_eq_true (show 1 ≤ rm by omega), decide_eq_true (show rm ≤ 256 by omega)]; rfl
  rw [hd, if_pos rfl]
  go_enter Tryz.func16, Tryz.ntmps16
  go_wp2
  go_ret
  exact ⟨rfl, B0.out⟩
set_option maxHeartbeats 4000000 in
theorem rCheck_any (th rm : Int) (w : World) : Calls Tryz.prog 9 #[dV th rm] w fun e w' => e = .returned (.bool (dqB th rm)) ∧ Below w.heap.size w w' := by
  have B0 := Mr.hid (bxd_below w th rm)
  have b0 := bxd_0 w th rm
  have c0 := cell_blk b0 0
  have c1 := cell_blk b0 1
  clear b0
  unfold dV dqB
  by_cases h1 : 1 ≤ th
  case neg =>
    have d1 : decide (1 ≤ th) = false := decide_eq_false h1
    rw [d1]
    go_enter Tryz.func9, Tryz.ntmps9
    go_wp2
    go_ret
    exact ⟨by simp, B0.out⟩
  have d1 : decide (1 ≤ th) = true := decide_eq_true h1
  by_cases h2 : th ≤ 16
  case neg =>
    have d2 : decide (th ≤ 16) = false := decide_eq_false h2
    rw [d1, d2]
    go_enter Tryz.func9, Tryz.ntmps9
    go_wp2
    go_ret
    exact ⟨by simp, B0.out⟩
  have d2 : decide (th ≤ 16) = true := decide_eq_true h2
  by_cases h3 : 1 ≤ rm
  case neg =>
    have d3 : decide (1 ≤ rm) = false := decide_eq_false h3
    rw [d1, d2, d3]
    go_enter Tryz.func9, Tryz.ntmps9
    go_wp2
    go_ret
    exact ⟨by simp, B0.out⟩
  have d3 : decide (1 ≤ rm) = true := decide_eq_true h3
  by_cases h4 : rm ≤ 256
  case neg =>
    have d4 : decide (rm ≤ 256) = false := decide_eq_false h4
    rw [d1, d2, d3, d4]
    go_enter Tryz.func9, Tryz.ntmps9
    go_wp2
    go_ret
    exact ⟨by simp, B0.out⟩
  have d4 : decide (rm ≤ 256) = true := decide_eq_true h4
  rw [d1, d2, d3, d4]
  go_enter Tryz.func9, Tryz.ntmps9
  go_wp2
  go_ret
  exact ⟨by simp, B0.out⟩
set_option maxHeartbeats 4000000 in
theorem size_any (th rm : Int) (w : World) (h1 : 1 ≤ rm) (h2 : rm ≤ 256) : Calls Tryz.prog 18 #[dV th rm] w fun e w' => e = .returned (.int .i64 (2 + rm)) ∧ Below w.heap.size w w' := by
  have B0 := Mr.hid (bxd_below w th rm)
  have b0 := bxd_0 w th rm
  have c1 := cell_blk b0 1
  have hw : IntKind.i64.wrap (2 + rm) = 2 + rm := i64x _ (by omega) (by omega)
  clear b0
  unfold dV
  go_enter Tryz.func18, Tryz.ntmps18
  go_wp2
  go_ret
  exact ⟨rfl, B0.out⟩
theorem value_any (x : Int) (w : World) : Calls Tryz.prog 70 #[.int .u64 x] w fun e w' => e = .returned (.int .i64 (wrap64 x)) ∧ w' = w := by
  go_enter Tryz.func70, Tryz.ntmps70
  go_wp2_with fail
  go_ret
  exact ⟨rfl, rfl⟩
set_option maxHeartbeats 4000000 in
theorem cellOf_any (rm n : Nat) (w : World) (h1 : 1 ≤ rm) (h2 : rm ≤ 256) (h3 : n ≤ 1000000) : Calls Tryz.prog 82 #[.int .i64 (rm : Int), .int .i64 (n : Int)] w fun e w' => e = .returned (.int .i64 ((2 + n % rm : Nat) : Int)) ∧ w' = w := by
  have hr : (rm : Int) ≠ 0 := by omega
  have hm : Hid (n % rm < rm) := Nat.mod_lt _ (by omega)
  have hz : ((rm : Int) == 0) = false := by simpa using hr
  have e1 : ((n : Int)).tmod (rm : Int) = ((n % rm : Nat) : Int) := by rw [Int.tmod_eq_emod_of_nonneg (by omega)]; simp
  have e2 : ((n : Int)) % (rm : Int) = ((n % rm : Nat) : Int) := by simp
  obtain ⟨q, hq⟩ : ∃ q : Nat, q = n % rm := ⟨_, rfl⟩
  rw [← hq] at e1 e2 hm ⊢
  have hw : IntKind.i64.wrap (2 + (q : Int)) = 2 + (q : Int) := i64x _ (by omega) (by have := hm.out; omega)
  have hw0 : IntKind.i64.wrap (q : Int) = (q : Int) := i64x _ (by omega) (by have := hm.out; omega)
  replace hq := Mr.hid hq
  go_enter Tryz.func82, Tryz.ntmps82
  go_wp2
  go_ret
  exact ⟨by simp, rfl⟩
end Go.Proofs.YtnapnhmmopajfaaGreat.Dq
