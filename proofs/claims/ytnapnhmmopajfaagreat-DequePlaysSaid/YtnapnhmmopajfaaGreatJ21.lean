import Derived.Test.YtnapnhmmopajfaaGreatJ02
import Derived.RangeFuncNested
import Derived.RangeFuncBound
import Derived.RangeFuncCalls
import Derived.RangeFuncLeaves
import Derived.Shelf.Abstract
import Derived.Shelf.RegionOpen
import Derived.OwnWalkIn
import Derived.TacticsInMore
import Derived.LoopNIn
import Derived.LoopIn
import Derived.Test.YtnapnhmmopajfaaGreatJ20
/-
  Log and the iterator that it hands out.
-/
namespace Go.Proofs.YtnapnhmmopajfaaGreat.Me
open Go.RowKit Go.Shelf Mr
attribute [local go_sem] Oper.semAt_some

def noAcc : Acc := ⟨0, 0, 0, 0, 0, 0, 0⟩
/-- The entries number f, f + 1, .., so many as k. -/
def ent (lg : List Acc) (f k : Nat) : List (Nat × Acc) := (List.range k).map (fun t => (f + t, lg[f + t]?.getD noAcc))
theorem ent_succ (lg : List Acc) (f k : Nat) : ent lg f (k + 1) = ent lg f k ++ [(f + k, lg[f + k]?.getD noAcc)] := by simp [ent, List.range_succ]
theorem ent_length (lg : List Acc) (f k : Nat) : (ent lg f k).length = k := by simp [ent]
theorem lgc_get (lg : List Acc) : ∀ (i : Nat) (_ : i < lg.length) (t : Nat) (_ : t < 7), (lgc lg)[i * 7 + t]? = (lg[i]?.getD noAcc).cells[t]? := by
  induction lg with
  | nil => intro i h; simp at h
  | cons a l ih =>
    intro i h t ht
    have e : lgc (a :: l) = a.cells ++ lgc l := rfl
    have el : a.cells.length = 7 := rfl
    cases i with
    | zero => rw [e, List.getElem?_append_left (by rw [el]; omega)]; simp
    | succ i =>
      rw [e, List.getElem?_append_right (by rw [el]; omega), el]
      have := ih i (by simpa using h) t ht
      rw [show (i + 1) * 7 + t - 7 = i * 7 + t from by omega, this]
      simp
/-- What a round keeps: the first cells of the row to which vl leads. -/
def Kl (vl : Value) (n : Nat) (W W' : World) : Prop := ∀ g, vl.ownBlock = some g → ∀ j, j < n * 7 → W'.cell? ⟨g, j, none⟩ = W.cell? ⟨g, j, none⟩
theorem Kl.refl (vl : Value) (n : Nat) (W : World) : Kl vl n W W := fun _ _ _ _ => rfl
theorem Kl.trans {vl : Value} {n : Nat} {A B C : World} (h : Kl vl n A B) (k : Kl vl n B C) : Kl vl n A C := fun g hg j hj => (k g hg j hj).trans (h g hg j hj)
theorem Kl.below {vl : Value} {n n₀ : Nat} {A B : World} (h : Below n₀ A B) (hlt : ∀ g, vl.ownBlock = some g → g < n₀) : Kl vl n A B := fun g hg _ _ => h.cell (hlt g hg)
theorem Kl.put {vl : Value} {n n₀ : Nat} (hlt : ∀ g, vl.ownBlock = some g → g < n₀) (W : World) (l : Nat) (o o' : Obj) (hl : n₀ ≤ l) (_ : W.heap[l]? = some o) (_ : o.isCells = false) (_ : o.isWalk = false) : Kl vl n W (W.putObj l o') := fun g hg _ _ =>
  World.cell?_of_block (World.putObj_heap_other (by have := hlt g hg; show g ≠ l; omega))

/-- What the iterator knows where its call begins. -/
structure It (W : World) (Bm Bf b : Nat) (fr : Int) (vl : Value) (lg : List Acc) : Prop where
  bm : W.cell? ⟨Bm, 0, none⟩ = some (.pointer (some ⟨b, 0, none⟩))
  bf : W.cell? ⟨Bf, 0, none⟩ = some (.int .i64 fr)
  c2 : W.cell? ⟨b, 2, none⟩ = some vl
  hl : Has W (fun _ => True) 65 7 vl lg.length (lgc lg)
  sm : (lg.length : Int) ≤ 281474976710656

set_option maxRecDepth 100000 in
set_option maxHeartbeats 2000000 in
theorem log1_in (l n Bm Bf b : Nat) (fr : Int) (vl : Value) (lg : List Acc) (hn : 1 ≤ n) (J Jx : List (Nat × Acc) → World → Prop)
    (hY : ∀ pre x W, J pre W → pre.length < lg.length - fr.toNat → YieldAt Fence.wide (n - 1) Tryz.prog l #[.int .i64 (x.1 : Int), Acc.val x.2] W fun e W' =>
      (e = .returned (.bool true) ∧ J (pre ++ [x]) W' ∧ Kl vl lg.length W W') ∨ (e = .returned (.bool false) ∧ Jx (pre ++ [x]) W'))
    (W : World) (hit : It W Bm Bf b fr vl lg) (h0 : J [] W) :
    CallsIn Fence.wide n Tryz.prog 69 #[.func (.yield l) #[] #[], .pointer (some ⟨Bm, 0, none⟩), .pointer (some ⟨Bf, 0, none⟩)] W fun e W' => (∃ v, e = .returned v) ∧
      ((∃ ys, ys = ent lg fr.toNat (lg.length - fr.toNat) ∧ J ys W') ∨ (∃ pre, (∃ k, k ≤ lg.length - fr.toNat ∧ pre = ent lg fr.toNat k) ∧ Jx pre W')) := by
  obtain ⟨bm, bf, c2, hl, sm⟩ := hit
  obtain ⟨a, cap, hv, hle⟩ := hl.form
  subst hv
  refine callsIn_of_wp Tryz.func69 rfl trivial ?_ rfl
  simp only [Tryz.ntmps69, List.size_toArray, List.length_cons, List.length_nil, Nat.reduceAdd, Nat.reduceSub, Array.replicate_succ, Array.replicate_zero, List.push_toArray, List.append_toArray, List.nil_append, List.cons_append]
  gi_wp2
  all_goals (
    gi_loopw [5] (fun i wr => ∃ k : Nat, k ≤ lg.length - fr.toNat ∧ i = .int .i64 ((fr.toNat + k : Nat) : Int) ∧ J (ent lg fr.toNat k) wr ∧ Kl (.slice a lg.length cap) lg.length W wr)
      (fun i _ => lg.length - (intOf i).toNat)
    case atStart => exact ⟨0, Nat.zero_le _, by congr 1; omega, h0, Kl.refl _ _ _⟩
    case round =>
      obtain ⟨k, hk, rfl, hJs, hkp⟩ := hrel
      by_cases hlt : fr.toNat + k < lg.length
      · obtain ⟨fn, tmps, assign, body, hy, hR⟩ := hY _ (fr.toNat + k, lg[fr.toNat + k]?.getD noAcc) wr hJs (by rw [ent_length]; omega)
        obtain ⟨g, cap', hvv, _, _⟩ := hl.there (by omega)
        cases hvv
        have cs : ∀ t u, t < 7 → (lg[fr.toNat + k]?.getD noAcc).cells[t]? = some u → wr.cell? ⟨g, (fr.toNat + k) * 7 + t, none⟩ = some u := fun t u ht hu => by
          rw [hkp g rfl _ (by omega)]
          exact hl.cells (g := g) rfl _ _ ((lgc_get lg _ hlt t ht).trans hu)
        have hes := Mr.hid (ent_succ lg fr.toNat k)
        generalize hx : lg[fr.toNat + k]?.getD noAcc = x at *
        have hx := Mr.hid hx
        generalize hi : fr.toNat + k = i at *
        have hi := Mr.hid hi
        obtain ⟨x0, x1, x2, x3, x4, x5, x6⟩ := x
        have d0 := cs 0 _ (by decide) rfl
        have d1 := cs 1 _ (by decide) rfl
        have d2 := cs 2 _ (by decide) rfl
        have d3 := cs 3 _ (by decide) rfl
        have d4 := cs 4 _ (by decide) rfl
        have d5 := cs 5 _ (by decide) rfl
        have d6 := cs 6 _ (by decide) rfl
        clear cs
        simp only [Acc.val, Nat.add_zero] at hy d0
        gi_wp2
        refine hR.mono ?_
        rintro e W3 (⟨rfl, hJ3, hk3⟩ | ⟨rfl, hJx3⟩)
        · gi_wp2
          go_roundw
          case rel => exact ⟨k + 1, by have := hi.out; omega, by have := hi.out; congr 1; omega, by rw [hes.out]; exact hJ3, hkp.trans hk3⟩
          case measure => simp [intOf]; omega
        · gi_wp2
          refine bodyPost_ret (results_none rfl _ _ _) rfl ?_
          exact ⟨⟨_, rfl⟩, .inr ⟨_, ⟨k + 1, by have := hi.out; omega, hes.out.symm⟩, hJx3⟩⟩
      · have hlt' : lg.length ≤ fr.toNat + k := by omega
        gi_wp2
        go_end0
        exact ⟨⟨_, rfl⟩, .inl ⟨_, by rw [show lg.length - fr.toNat = k from by omega], hJs⟩⟩)

set_option maxRecDepth 100000 in
theorem log1_nil_in (l n Bm Bf : Nat) (J : List (Nat × Acc) → World → Prop) (W : World) (bm : W.cell? ⟨Bm, 0, none⟩ = some (.pointer none)) (h0 : J [] W) :
    CallsIn Fence.wide n Tryz.prog 69 #[.func (.yield l) #[] #[], .pointer (some ⟨Bm, 0, none⟩), .pointer (some ⟨Bf, 0, none⟩)] W fun e W' => (∃ v, e = .returned v) ∧ J [] W' := by
  refine callsIn_of_wp Tryz.func69 rfl trivial ?_ rfl
  simp only [Tryz.ntmps69, List.size_toArray, List.length_cons, List.length_nil, Nat.reduceAdd, Nat.reduceSub, Array.replicate_succ, Array.replicate_zero, List.push_toArray, List.append_toArray, List.nil_append, List.cons_append]
  gi_wp2
  refine bodyPost_ret (results_none rfl _ _ _) rfl ?_
  exact ⟨⟨_, rfl⟩, h0⟩

theorem It.below {w W : World} {Bm Bf b : Nat} {fr : Int} {vl : Value} {lg : List Acc} (h : It w Bm Bf b fr vl lg) (hB : Below w.heap.size w W) : It W Bm Bf b fr vl lg :=
  ⟨(hB.cell (p := ⟨Bm, 0, none⟩) (World.block_lt_of_cell? w _ h.bm)).trans h.bm, (hB.cell (p := ⟨Bf, 0, none⟩) (World.block_lt_of_cell? w _ h.bf)).trans h.bf, (hB.cell (p := ⟨b, 2, none⟩) (World.block_lt_of_cell? w _ h.c2)).trans h.c2, h.hl.below hB, h.sm⟩

/-- What Log hands out, ranged over. -/
theorem log_stops (n Bm Bf b : Nat) (fr : Int) (vl : Value) (lg : List Acc) (hn : 1 ≤ n) (w : World) (hit : It w Bm Bf b fr vl lg) :
    SeqStopsK Fence.wide n Tryz.prog 69 #[.pointer (some ⟨Bm, 0, none⟩), .pointer (some ⟨Bf, 0, none⟩)] (fun x : Nat × Acc => #[Value.int .i64 (x.1 : Int), Acc.val x.2]) (Kl vl lg.length)
      (fun ys => ys = ent lg fr.toNat (lg.length - fr.toNat)) (fun pre => ∃ k, k ≤ lg.length - fr.toNat ∧ pre = ent lg fr.toNat k) (lg.length - fr.toNat) w :=
  fun l J Jx W hW _ _ hY h0 => log1_in l n Bm Bf b fr vl lg hn J Jx hY W (hit.below hW) h0
theorem log_stops_nil (n Bm Bf : Nat) (w : World) (bm : w.cell? ⟨Bm, 0, none⟩ = some (.pointer none)) :
    SeqStopsK Fence.wide n Tryz.prog 69 #[.pointer (some ⟨Bm, 0, none⟩), .pointer (some ⟨Bf, 0, none⟩)] (fun x : Nat × Acc => #[Value.int .i64 (x.1 : Int), Acc.val x.2]) (Kl (.slice none 0 0) 0)
      (fun ys => ys = []) (fun _ => False) 0 w :=
  fun l J _ W hW _ _ _ h0 => (log1_nil_in l n Bm Bf J W ((hW.cell (p := ⟨Bm, 0, none⟩) (World.block_lt_of_cell? w _ bm)).trans bm) h0).mono fun _ _ ⟨he, hj⟩ => ⟨he, .inl ⟨_, rfl, hj⟩⟩

theorem log_any (p : Option Addr) (fr : Int) (w : World) :
    Calls Tryz.prog 57 #[.pointer p, .int .i64 fr] w fun e w' => e = .returned (.func (.func 69) #[] #[.pointer (some ⟨w.heap.size, 0, none⟩), .pointer (some ⟨w.heap.size + 1, 0, none⟩)]) ∧
      w' = (w.alloc (.cells #[.pointer p] 88)).alloc (.cells #[.int .i64 fr] 3) := by
  go_enter Tryz.func57, Tryz.ntmps57
  go_wp2
  go_ret
  exact ⟨rfl, rfl⟩
end Go.Proofs.YtnapnhmmopajfaaGreat.Me
/-
  slices.Clone of the calls and of the shifts.
-/
namespace Go.Proofs.YtnapnhmmopajfaaGreat.Ma
open Go.RowKit Go.Shelf Mr Me
theorem info_shift : (Tryz.prog.info? 68).map (fun i => (i.zero, i.size, i.bytes)) = some (some (.agg #[.int .i64 0, .int .i64 0, .int .i64 0, .int .i64 0, .int .i64 0]), 5, 40) := by kernel_rfl
theorem clc_length (l : List Cl) : (clc l).length = l.length * 9 := flat_length cl_len l
theorem clc_one (l : List Cl) : ∀ u ∈ clc l, u.oneCell' = true := by
  intro u hu
  simp only [clc, List.mem_flatMap] at hu
  obtain ⟨c, _, hu⟩ := hu
  simp [Cl.cells] at hu
  rcases hu with rfl | rfl | rfl | rfl | rfl | rfl | rfl | rfl | rfl <;> rfl
set_option maxRecDepth 100000 in
set_option maxHeartbeats 1000000 in
theorem cloneCl_any {w : World} {S : Nat → Prop} {v : Value} {cls : List Cl} (h : Has w S 61 9 v cls.length (clc cls)) (hn : cls.length ≤ 100000) :
    Calls Tryz.prog 41 #[v] w fun e w' => ∃ v', e = .returned v' ∧ Has w' (fun k => w.heap.size ≤ k) 61 9 v' cls.length (clc cls) ∧ Below w.heap.size w w' := by
  obtain ⟨i0, hi, hz0, hz1, hz2⟩ := info_parts info_call
  rcases h.2 with ⟨rfl, h0⟩ | ⟨g, cap, cur, rfl, _, hg, hle, _⟩
  · have en := fun (w : World) => Lib.run_eql_slice_nil (P := Tryz.prog) w 28 61 none 0 0 0 0 Tryz.underlying28
    have hc : cls = [] := List.eq_nil_of_length_eq_zero h0
    subst hc
    clear h
    go_enter Tryz.func41, Tryz.ntmps41
    go_wp2
    go_ret
    exact ⟨_, rfl, Has.nil _ _ _ _, Below.refl _ _⟩
  · have en := fun (w : World) => Lib.run_eql_slice_nil (P := Tryz.prog) w 28 61 (some ⟨g, 0, none⟩) cls.length cap 0 0 Tryz.underlying28
    have hgl := (Array.getElem?_eq_some_iff.1 hg).1
    have hc : ∀ o j u, (clc cls)[j]? = some u → (w.alloc o).cell? ((⟨g, 0, none⟩ : Addr).add j) = some u := fun o j u hu => by
      have hadd : (⟨g, 0, none⟩ : Addr).add j = ⟨g, j, none⟩ := by unfold Addr.add; split <;> simp_all
      rw [hadd, World.cell?_alloc_past _ _ _ hgl]
      exact h.cells (g := g) rfl j u hu
    have hl := clc_length cls
    have h1 := clc_one cls
    generalize clc cls = xs at *
    generalize cls.length = N at *
    replace hc := Mr.hid hc
    replace hl := Mr.hid hl
    replace h1 := Mr.hid h1
    clear h hg
    go_enter Tryz.func41, Tryz.ntmps41
    go_wp2_with (at_builtin; refine wpList_append_own _ rfl (.tmp 5) (.tmp 6) 28 rfl w.heap.size 61 i0 _ 9 72 Tryz.underlying28 hi hz0 hz1 hz2 rfl (by decide) (.slice (some ⟨w.heap.size, 0, none⟩) 0 0) 0 [] rfl (World.ownsRow_made w #[] 0 (Nat.le_refl _) (by decide) (by simp)) ⟨g, 0, none⟩ N cap xs rfl hl.out (hc.out _) h1.out (by unfold maxLen; omega) (by omega) (by simp) ?_; intro v' w1 hown hgrow hnil)
    go_ret
    rw [Nat.zero_add, List.nil_append] at hown
    exact ⟨_, rfl, Has.owns hown (fun _ h => h), ((Below.refl _ _).alloc (Nat.le_refl _) _).grown hgrow (by simp) (fun k hk => by simp [Value.ownBlock] at hk; omega)⟩
theorem shc_length (l : List Sh) : (shc l).length = l.length * 5 := flat_length sh_len l
theorem shc_one (l : List Sh) : ∀ u ∈ shc l, u.oneCell' = true := by
  intro u hu
  simp only [shc, List.mem_flatMap] at hu
  obtain ⟨c, _, hu⟩ := hu
  simp [Sh.cells] at hu
  rcases hu with rfl | rfl | rfl | rfl | rfl <;> rfl
set_option maxRecDepth 100000 in
set_option maxHeartbeats 1000000 in
theorem cloneSh_any {w : World} {S : Nat → Prop} {v : Value} {cls : List Sh} (h : Has w S 68 5 v cls.length (shc cls)) (hn : cls.length ≤ 100000) :
    Calls Tryz.prog 43 #[v] w fun e w' => ∃ v', e = .returned v' ∧ Has w' (fun k => w.heap.size ≤ k) 68 5 v' cls.length (shc cls) ∧ Below w.heap.size w w' := by
  obtain ⟨i0, hi, hz0, hz1, hz2⟩ := info_parts info_shift
  rcases h.2 with ⟨rfl, h0⟩ | ⟨g, cap, cur, rfl, _, hg, hle, _⟩
  · have en := fun (w : World) => Lib.run_eql_slice_nil (P := Tryz.prog) w 30 68 none 0 0 0 0 Tryz.underlying30
    have hc : cls = [] := List.eq_nil_of_length_eq_zero h0
    subst hc
    clear h
    go_enter Tryz.func43, Tryz.ntmps43
    go_wp2
    go_ret
    exact ⟨_, rfl, Has.nil _ _ _ _, Below.refl _ _⟩
  · have en := fun (w : World) => Lib.run_eql_slice_nil (P := Tryz.prog) w 30 68 (some ⟨g, 0, none⟩) cls.length cap 0 0 Tryz.underlying30
    have hgl := (Array.getElem?_eq_some_iff.1 hg).1
    have hc : ∀ o j u, (shc cls)[j]? = some u → (w.alloc o).cell? ((⟨g, 0, none⟩ : Addr).add j) = some u := fun o j u hu => by
      have hadd : (⟨g, 0, none⟩ : Addr).add j = ⟨g, j, none⟩ := by unfold Addr.add; split <;> simp_all
      rw [hadd, World.cell?_alloc_past _ _ _ hgl]
      exact h.cells (g := g) rfl j u hu
    have hl := shc_length cls
    have h1 := shc_one cls
    generalize shc cls = xs at *
    generalize cls.length = N at *
    replace hc := Mr.hid hc
    replace hl := Mr.hid hl
    replace h1 := Mr.hid h1
    clear h hg
    go_enter Tryz.func43, Tryz.ntmps43
    go_wp2_with (at_builtin; refine wpList_append_own _ rfl (.tmp 5) (.tmp 6) 30 rfl w.heap.size 68 i0 _ 5 40 Tryz.underlying30 hi hz0 hz1 hz2 rfl (by decide) (.slice (some ⟨w.heap.size, 0, none⟩) 0 0) 0 [] rfl (World.ownsRow_made w #[] 0 (Nat.le_refl _) (by decide) (by simp)) ⟨g, 0, none⟩ N cap xs rfl hl.out (hc.out _) h1.out (by unfold maxLen; omega) (by omega) (by simp) ?_; intro v' w1 hown hgrow hnil)
    go_ret
    rw [Nat.zero_add, List.nil_append] at hown
    exact ⟨_, rfl, Has.owns hown (fun _ h => h), ((Below.refl _ _).alloc (Nat.le_refl _) _).grown hgrow (by simp) (fun k hk => by simp [Value.ownBlock] at hk; omega)⟩
end Go.Proofs.YtnapnhmmopajfaaGreat.Ma
