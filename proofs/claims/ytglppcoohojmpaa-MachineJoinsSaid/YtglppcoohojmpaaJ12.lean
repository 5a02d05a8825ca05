import Derived.Test.YtglppcoohojmpaaJ11
import Derived.Test.YtglppcoohojmpaaJ02
import Derived.RangeFuncNested
import Derived.RangeFuncBound
import Derived.RangeFuncCalls
import Derived.RangeFuncLeaves
import Derived.Shelf.Abstract
import Derived.Shelf.RegionOpen
import Derived.OwnWalkIn
import Derived.TacticsInMore
import Derived.LoopNIn
import Derived.LoopIn
/-
  machine.New by its contract.
-/
namespace Go.Proofs.Ytglppcoohojmpaa.Ma
open Go.RowKit Go.Shelf Mr Me
/-- A new machine. -/
def Pm.new (nth : Nat) (ws : List Int) : Pm := ⟨List.replicate nth ⟨.idle, false, -1⟩, 0, [], ws, []⟩
theorem thsOf_new (nth : Nat) (bt : Nat → Nat) : thsOf (List.replicate nth ⟨.idle, false, -1⟩) bt = List.replicate nth idleT := by
  apply List.ext_getElem?
  intro j
  rw [thsOf_get]
  simp only [List.getElem?_replicate]
  split <;> rfl
theorem new_idle {nth i : Nat} {t : Pt} (h : (List.replicate nth (⟨.idle, false, -1⟩ : Pt))[i]? = some t) : t = ⟨.idle, false, -1⟩ := by
  rw [List.getElem?_replicate] at h
  split at h
  · exact (Option.some.inj h).symm
  · cases h
set_option maxRecDepth 100000 in
set_option maxHeartbeats 1000000 in
theorem newM_any (w : World) (nth : Nat) (h1 : 1 ≤ nth) (h2 : nth ≤ 16) (a : Option Addr) (n cap : Nat) (ws : List Int) (hs : Src w a n cap ws) (hn : n ≤ 8192) {K : Nat → Prop} {km s1 a1 s2 a2 : Nat} (hK : Kt w K km ws.length s1 a1 s2 a2) (hKl : ∀ k, K k → k < w.heap.size) :
    Calls Try.prog 8 #[.int .i64 (nth : Int), .slice a n cap, .map (some km)] w fun e w' => ∃ q U, e = .returned (.tuple #[.pointer (some ⟨q.b, 0, none⟩), .int .i64 0]) ∧ R w' U K q km s1 a1 s2 a2 (Pm.new nth ws) ∧ q.vs = .slice none 0 0 ∧ (∀ k, U k → w.heap.size ≤ k) ∧ Below w.heap.size w w' := by
  have N := new_any _ _ _ _ _ hs hn
  have d1 : decide ((nth : Int) < 1) = false := by simp; omega
  have d2 : decide (16 < (nth : Int)) = false := by simp; omega
  have hws : ws.length ≤ 8192 := by have := hs.1; omega
  have RP := fun (w1 : World) => repeat_any (w1.alloc (.cells #[.nilIface, .bool false, .int .i64 (-1), .int .i64 0, .int .i64 0] 93)) w1.heap.size nth h1 h2 (heap_alloc_new w1 _)
  simp only [World.size_alloc] at RP
  replace hs := Mr.hid hs
  replace hK := Mr.hid hK
  go_enter Try.func8, Try.ntmps8
  go_wp2_with (first | (go_at_call 30; refine N.mono ?_; clear N; rintro e w1 ⟨bm, vw, rfl, hM, hB1⟩; have RP1 := RP w1; clear RP) | (go_at_call 31; refine RP1.mono ?_; clear RP1; rintro e w3 ⟨rfl, hT, hB3⟩))
  go_ret2
  have z1 := hB1.size
  have z3 := hB3.size
  obtain ⟨W5, hW5⟩ : ∃ W5, (w3.alloc (.cells #[.pointer (some ⟨bm, 0, none⟩), .slice none 0 0, .slice none 0 0] 96)).alloc (.cells #[.map (some km), .slice (some ⟨w1.heap.size + 1, 0, none⟩) nth nth, .int .i64 0, .pointer (some ⟨w3.heap.size, 0, none⟩)] 98) = W5 := ⟨_, rfl⟩
  have s5 : W5.heap.size = w3.heap.size + 1 + 1 := by rw [← hW5]; simp
  have k5 : ∀ k, k < w3.heap.size → W5.heap[k]? = w3.heap[k]? := fun k hk => by rw [← hW5]; exact (Below.heap_alloc _ _ _ (by simp; omega)).trans (Below.heap_alloc _ _ _ hk)
  have kb : W5.heap[w3.heap.size]? = some (.cells #[.pointer (some ⟨bm, 0, none⟩), .slice none 0 0, .slice none 0 0] 96 (0, 0)) := by rw [← hW5]; exact (Below.heap_alloc _ _ _ (by simp)).trans (heap_alloc_new w3 _)
  have km5 : W5.heap[w3.heap.size + 1]? = some (.cells #[.map (some km), .slice (some ⟨w1.heap.size + 1, 0, none⟩) nth nth, .int .i64 0, .pointer (some ⟨w3.heap.size, 0, none⟩)] 98 (0, 0)) := by
    rw [← hW5]
    have := heap_alloc_new (w3.alloc (.cells #[.pointer (some ⟨bm, 0, none⟩), .slice none 0 0, .slice none 0 0] 96)) (.cells #[.map (some km), .slice (some ⟨w1.heap.size + 1, 0, none⟩) nth nth, .int .i64 0, .pointer (some ⟨w3.heap.size, 0, none⟩)] 98)
    rw [World.size_alloc] at this
    exact this
  have B5 : Below w.heap.size w W5 := by
    rw [← hW5]
    simp only [World.size_alloc] at z3
    have b2 : Below w.heap.size w (w1.alloc (.cells #[.nilIface, .bool false, .int .i64 (-1), .int .i64 0, .int .i64 0] 93)) := hB1.alloc z1 _
    exact ((b2.trans (hB3.mono (by omega))).alloc (by omega) _).alloc (by simp; omega) _
  simp only [World.size_alloc] at z3
  have m5 : ∀ k, k < w1.heap.size → W5.heap[k]? = w1.heap[k]? := fun k hk => (k5 k (by omega)).trans ((hB3.block k (by omega)).trans (Below.heap_alloc _ _ _ hk))
  have u1 : (w.heap.size ≤ w3.heap.size + 1 ∧ w3.heap.size + 1 < W5.heap.size) ∧ ¬ (w.heap.size ≤ w3.heap.size + 1 ∧ w3.heap.size + 1 < w1.heap.size) := by omega
  have u2 : (w.heap.size ≤ w3.heap.size ∧ w3.heap.size < W5.heap.size) ∧ ¬ (w.heap.size ≤ w3.heap.size ∧ w3.heap.size < w1.heap.size) := by omega
  rw [hW5]
  refine ⟨⟨w3.heap.size + 1, w3.heap.size, bm, 0, 0, w1.heap.size + 1, nth, nth, .map (some km), .slice none 0 0, .slice none 0 0, vw⟩, (fun k => w.heap.size ≤ k ∧ k < W5.heap.size), rfl, ⟨(fun k => w.heap.size ≤ k ∧ k < w1.heap.size), .slice none 0 0, .slice none 0 0, .slice none 0 0, 0, [], (fun _ => 0), ⟨?_, ?_⟩, ?_, Nat.le_refl _, ?_, ?_, ?_, rfl⟩, rfl, fun k hk => hk.1, B5⟩
  · rintro k o ⟨j, t, hj, rfl, ho⟩
    rw [new_idle hj] at ho
    cases ho
  · refine ⟨km5, kb, (hM.narrow.kept (fun k _ hk => m5 k hk)), ?_, Has.nil _ _ _ _, Has.nil _ _ _ _, u1, u2, fun k hk => ⟨hk.1, by omega⟩, fun k hk => hk.2⟩
    have e : thsOf (Pm.new nth ws).pts (fun _ => 0) = List.replicate nth idleT := thsOf_new nth _
    simp only [e, List.length_replicate]
    refine hT.kept (fun k hk => k5 k (hT.lt k hk).2) (fun k hk => ?_)
    have h' := hT.lt k hk
    exact ⟨⟨by omega, by omega⟩, fun h => by omega⟩
  · intro i j t u hi hj ht
    rw [new_idle hi] at ht
    cases ht
  · exact hK.out.kept (fun k hk => B5.block k (hKl k hk))
  · intro k hk
    have := hKl k hk
    exact ⟨fun h => by omega, by omega⟩
  · refine ⟨by simp [Pm.new], by simp [Pm.new], by simp [Pm.new], fun i t hi => ?_⟩
    rw [new_idle hi]
    exact ⟨trivial, fun h => by cases h⟩
end Go.Proofs.Ytglppcoohojmpaa.Ma
/-
  Log and the iterator that it hands out.
-/
namespace Go.Proofs.Ytglppcoohojmpaa.Me
open Go.RowKit Go.Shelf Mr
attribute [local go_sem] Oper.semAt_some

def noAcc : Acc := ⟨0, 0, 0, 0, 0, 0, 0⟩
/-- The entries number f, f + 1, .., so many as k. -/
def ent (lg : List Acc) (f k : Nat) : List (Nat × Acc) := (List.range k).map (fun t => (f + t, lg[f + t]?.getD noAcc))
theorem ent_succ (lg : List Acc) (f k : Nat) : ent lg f (k + 1) = ent lg f k ++ [(f + k, lg[f + k]?.getD noAcc)] := by simp [ent, List.range_succ]
theorem ent_length (lg : List Acc) (f k : Nat) : (ent lg f k).length = k := by simp [ent]
theorem lgc_get (lg : List Acc) : ∀ (i : Nat) (_ : i < lg.length) (t : Nat) (_ : t < 7), (lgc lg)[i * 7 + t]? = (lg[i]?.getD noAcc).cells[t]? := by
  induction lg with
  | nil => intro i h; simp at h
  | cons a l ih =>
    intro i h t ht
    have e : lgc (a :: l) = a.cells ++ lgc l := rfl
    have el : a.cells.length = 7 := rfl
    cases i with
    | zero => rw [e, List.getElem?_append_left (by rw [el]; omega)]; simp
    | succ i =>
      rw [e, List.getElem?_append_right (by rw [el]; omega), el]
      have := ih i (by simpa using h) t ht
      rw [show (i + 1) * 7 + t - 7 = i * 7 + t from by omega, this]
      simp
/-- What a round keeps: the first cells of the row to which vl leads. -/
def Kl (vl : Value) (n : Nat) (W W' : World) : Prop := ∀ g, vl.ownBlock = some g → ∀ j, j < n * 7 → W'.cell? ⟨g, j, none⟩ = W.cell? ⟨g, j, none⟩
theorem Kl.refl (vl : Value) (n : Nat) (W : World) : Kl vl n W W := fun _ _ _ _ => rfl
theorem Kl.trans {vl : Value} {n : Nat} {A B C : World} (h : Kl vl n A B) (k : Kl vl n B C) : Kl vl n A C := fun g hg j hj => (k g hg j hj).trans (h g hg j hj)
theorem Kl.below {vl : Value} {n n₀ : Nat} {A B : World} (h : Below n₀ A B) (hlt : ∀ g, vl.ownBlock = some g → g < n₀) : Kl vl n A B := fun g hg _ _ => h.cell (hlt g hg)
theorem Kl.put {vl : Value} {n n₀ : Nat} (hlt : ∀ g, vl.ownBlock = some g → g < n₀) (W : World) (l : Nat) (o o' : Obj) (hl : n₀ ≤ l) (_ : W.heap[l]? = some o) (_ : o.isCells = false) (_ : o.isWalk = false) : Kl vl n W (W.putObj l o') := fun g hg _ _ =>
  World.cell?_of_block (World.putObj_heap_other (by have := hlt g hg; show g ≠ l; omega))

/-- What the iterator knows where its call begins. -/
structure It (W : World) (Bm Bf b : Nat) (fr : Int) (vl : Value) (lg : List Acc) : Prop where
  bm : W.cell? ⟨Bm, 0, none⟩ = some (.pointer (some ⟨b, 0, none⟩))
  bf : W.cell? ⟨Bf, 0, none⟩ = some (.int .i64 fr)
  c2 : W.cell? ⟨b, 2, none⟩ = some vl
  hl : Has W (fun _ => True) 128 7 vl lg.length (lgc lg)
  sm : (lg.length : Int) ≤ 281474976710656

set_option maxRecDepth 100000 in
set_option maxHeartbeats 2000000 in
theorem log1_in (l n Bm Bf b : Nat) (fr : Int) (vl : Value) (lg : List Acc) (hn : 1 ≤ n) (J Jx : List (Nat × Acc) → World → Prop)
    (hY : ∀ pre x W, J pre W → pre.length < lg.length - fr.toNat → YieldAt Fence.wide (n - 1) Try.prog l #[.int .i64 (x.1 : Int), Acc.val x.2] W fun e W' =>
      (e = .returned (.bool true) ∧ J (pre ++ [x]) W' ∧ Kl vl lg.length W W') ∨ (e = .returned (.bool false) ∧ Jx (pre ++ [x]) W'))
    (W : World) (hit : It W Bm Bf b fr vl lg) (h0 : J [] W) :
    CallsIn Fence.wide n Try.prog 77 #[.func (.yield l) #[] #[], .pointer (some ⟨Bm, 0, none⟩), .pointer (some ⟨Bf, 0, none⟩)] W fun e W' => (∃ v, e = .returned v) ∧
      ((∃ ys, ys = ent lg fr.toNat (lg.length - fr.toNat) ∧ J ys W') ∨ (∃ pre, (∃ k, k ≤ lg.length - fr.toNat ∧ pre = ent lg fr.toNat k) ∧ Jx pre W')) := by
  obtain ⟨bm, bf, c2, hl, sm⟩ := hit
  obtain ⟨a, cap, hv, hle⟩ := hl.form
  subst hv
  refine callsIn_of_wp Try.func77 rfl trivial ?_ rfl
  simp only [Try.ntmps77, List.size_toArray, List.length_cons, List.length_nil, Nat.reduceAdd, Nat.reduceSub, Array.replicate_succ, Array.replicate_zero, List.push_toArray, List.append_toArray, List.nil_append, List.cons_append]
  gi_wp2
  all_goals (
    gi_loopw [5] (fun i wr => ∃ k : Nat, k ≤ lg.length - fr.toNat ∧ i = .int .i64 ((fr.toNat + k : Nat) : Int) ∧ J (ent lg fr.toNat k) wr ∧ Kl (.slice a lg.length cap) lg.length W wr)
      (fun i _ => lg.length - (intOf i).toNat)
    case atStart => exact ⟨0, Nat.zero_le _, by congr 1; omega, h0, Kl.refl _ _ _⟩
    case round =>
      obtain ⟨k, hk, rfl, hJs, hkp⟩ := hrel
      by_cases hlt : fr.toNat + k < lg.length
      · obtain ⟨fn, tmps, assign, body, hy, hR⟩ := hY _ (fr.toNat + k, lg[fr.toNat + k]?.getD noAcc) wr hJs (by rw [ent_length]; omega)
        obtain ⟨g, cap', hvv, _, _⟩ := hl.there (by omega)
        cases hvv
        have cs : ∀ t u, t < 7 → (lg[fr.toNat + k]?.getD noAcc).cells[t]? = some u → wr.cell? ⟨g, (fr.toNat + k) * 7 + t, none⟩ = some u := fun t u ht hu => by
          rw [hkp g rfl _ (by omega)]
          exact hl.cells (g := g) rfl _ _ ((lgc_get lg _ hlt t ht).trans hu)
        have hes := Mr.hid (ent_succ lg fr.toNat k)
        generalize hx : lg[fr.toNat + k]?.getD noAcc = x at *
        have hx := Mr.hid hx
        generalize hi : fr.toNat + k = i at *
        have hi := Mr.hid hi
        obtain ⟨x0, x1, x2, x3, x4, x5, x6⟩ := x
        have d0 := cs 0 _ (by decide) rfl
        have d1 := cs 1 _ (by decide) rfl
        have d2 := cs 2 _ (by decide) rfl
        have d3 := cs 3 _ (by decide) rfl
        have d4 := cs 4 _ (by decide) rfl
        have d5 := cs 5 _ (by decide) rfl
        have d6 := cs 6 _ (by decide) rfl
        clear cs
        simp only [Acc.val, Nat.add_zero] at hy d0
        gi_wp2
        refine hR.mono ?_
        rintro e W3 (⟨rfl, hJ3, hk3⟩ | ⟨rfl, hJx3⟩)
        · gi_wp2
          go_roundw
          case rel => exact ⟨k + 1, by have := hi.out; omega, by have := hi.out; congr 1; omega, by rw [hes.out]; exact hJ3, hkp.trans hk3⟩
          case measure => simp [intOf]; omega
        · gi_wp2
          refine bodyPost_ret (results_none rfl _ _ _) rfl ?_
          exact ⟨⟨_, rfl⟩, .inr ⟨_, ⟨k + 1, by have := hi.out; omega, hes.out.symm⟩, hJx3⟩⟩
      · have hlt' : lg.length ≤ fr.toNat + k := by omega
        gi_wp2
        go_end0
        exact ⟨⟨_, rfl⟩, .inl ⟨_, by rw [show lg.length - fr.toNat = k from by omega], hJs⟩⟩)

set_option maxRecDepth 100000 in
theorem log1_nil_in (l n Bm Bf : Nat) (J : List (Nat × Acc) → World → Prop) (W : World) (bm : W.cell? ⟨Bm, 0, none⟩ = some (.pointer none)) (h0 : J [] W) :
    CallsIn Fence.wide n Try.prog 77 #[.func (.yield l) #[] #[], .pointer (some ⟨Bm, 0, none⟩), .pointer (some ⟨Bf, 0, none⟩)] W fun e W' => (∃ v, e = .returned v) ∧ J [] W' := by
  refine callsIn_of_wp Try.func77 rfl trivial ?_ rfl
  simp only [Try.ntmps77, List.size_toArray, List.length_cons, List.length_nil, Nat.reduceAdd, Nat.reduceSub, Array.replicate_succ, Array.replicate_zero, List.push_toArray, List.append_toArray, List.nil_append, List.cons_append]
  gi_wp2
  refine bodyPost_ret (results_none rfl _ _ _) rfl ?_
  exact ⟨⟨_, rfl⟩, h0⟩

theorem It.below {w W : World} {Bm Bf b : Nat} {fr : Int} {vl : Value} {lg : List Acc} (h : It w Bm Bf b fr vl lg) (hB : Below w.heap.size w W) : It W Bm Bf b fr vl lg :=
  ⟨(hB.cell (p := ⟨Bm, 0, none⟩) (World.block_lt_of_cell? w _ h.bm)).trans h.bm, (hB.cell (p := ⟨Bf, 0, none⟩) (World.block_lt_of_cell? w _ h.bf)).trans h.bf, (hB.cell (p := ⟨b, 2, none⟩) (World.block_lt_of_cell? w _ h.c2)).trans h.c2, h.hl.below hB, h.sm⟩

/-- What Log hands out, ranged over. -/
theorem log_stops (n Bm Bf b : Nat) (fr : Int) (vl : Value) (lg : List Acc) (hn : 1 ≤ n) (w : World) (hit : It w Bm Bf b fr vl lg) :
    SeqStopsK Fence.wide n Try.prog 77 #[.pointer (some ⟨Bm, 0, none⟩), .pointer (some ⟨Bf, 0, none⟩)] (fun x : Nat × Acc => #[Value.int .i64 (x.1 : Int), Acc.val x.2]) (Kl vl lg.length)
      (fun ys => ys = ent lg fr.toNat (lg.length - fr.toNat)) (fun pre => ∃ k, k ≤ lg.length - fr.toNat ∧ pre = ent lg fr.toNat k) (lg.length - fr.toNat) w :=
  fun l J Jx W hW _ _ hY h0 => log1_in l n Bm Bf b fr vl lg hn J Jx hY W (hit.below hW) h0
theorem log_stops_nil (n Bm Bf : Nat) (w : World) (bm : w.cell? ⟨Bm, 0, none⟩ = some (.pointer none)) :
    SeqStopsK Fence.wide n Try.prog 77 #[.pointer (some ⟨Bm, 0, none⟩), .pointer (some ⟨Bf, 0, none⟩)] (fun x : Nat × Acc => #[Value.int .i64 (x.1 : Int), Acc.val x.2]) (Kl (.slice none 0 0) 0)
      (fun ys => ys = []) (fun _ => False) 0 w :=
  fun l J _ W hW _ _ _ h0 => (log1_nil_in l n Bm Bf J W ((hW.cell (p := ⟨Bm, 0, none⟩) (World.block_lt_of_cell? w _ bm)).trans bm) h0).mono fun _ _ ⟨he, hj⟩ => ⟨he, .inl ⟨_, rfl, hj⟩⟩

theorem log_any (p : Option Addr) (fr : Int) (w : World) :
    Calls Try.prog 66 #[.pointer p, .int .i64 fr] w fun e w' => e = .returned (.func (.func 77) #[] #[.pointer (some ⟨w.heap.size, 0, none⟩), .pointer (some ⟨w.heap.size + 1, 0, none⟩)]) ∧
      w' = (w.alloc (.cells #[.pointer p] 85)).alloc (.cells #[.int .i64 fr] 3) := by
  go_enter Try.func66, Try.ntmps66
  go_wp2
  go_ret
  exact ⟨rfl, rfl⟩
end Go.Proofs.Ytglppcoohojmpaa.Me
