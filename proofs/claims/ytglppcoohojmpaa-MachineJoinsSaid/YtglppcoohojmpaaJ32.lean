import Derived.Test.YtglppcoohojmpaaJ31
import Derived.Test.YtglppcoohojmpaaJ15
import Derived.Deep.RegionHeld3
import Derived.Test.YtglppcoohojmpaaJ16
import Derived.SizedLaws
/-
  Play of the program and of the document, at any script: the same lists, the same code.
-/
namespace Go.Proofs.Ytglppcoohojmpaa.Rf
open Go.RowKit Mr Me Ma
theorem has_take {w : World} {S : Nat → Prop} {e size g n m cap : Nat} {xs ys : List Value} (h : Has w S e size (.slice (some ⟨g, 0, none⟩) (n + m) cap) (n + m) (xs ++ ys)) (hx : xs.length = n * size) : Has w S e size (.slice (some ⟨g, 0, none⟩) n cap) n xs := by
  rcases h.2 with ⟨h0, _⟩ | ⟨g', cap', cur, hv, hS, hg, hn, hc, hs, ht⟩
  · cases h0
  · cases hv
    refine ⟨hx, .inr ⟨_, _, cur, rfl, hS, hg, by omega, hc, hs, ?_⟩⟩
    have e : (n + m) * size = n * size + m * size := Nat.add_mul _ _ _
    have := congrArg (List.take (n * size)) ht
    rw [List.take_take, List.take_append_of_le_length (by omega), ← hx, List.take_length] at this
    rw [← this, hx]
    congr 1
    have : n * size ≤ (n + m) * size := Nat.mul_le_mul_right _ (by omega)
    omega
theorem src_add {w : World} {a : Option Addr} {n cap : Nat} {ws : List Int} (h : Src w a n cap ws) (i : Nat) (hi : i < ws.length) : ∃ b off, a = some ⟨b, off, none⟩ ∧ b < w.heap.size ∧ w.cell? ⟨b, off + i, none⟩ = some (.int .u64 (ws[i]?.getD 0)) := by
  rcases h.2 with ⟨_, h0, _⟩ | ⟨ad, rfl, hc⟩
  · rw [h.1] at h0; omega
  · have q := hc i (.int .u64 (ws[i]?.getD 0)) (wrd_get ws i hi)
    have hsp : ad.spot = none := by
      have q0 := hc 0 (.int .u64 (ws[0]?.getD 0)) (wrd_get ws 0 (by omega))
      have := World.cell?_spot q0
      simpa [Addr.add] using this
    obtain ⟨b, off, s⟩ := ad
    simp at hsp
    subst hsp
    have e1 : (⟨b, off, none⟩ : Addr).add i = ⟨b, off + i, none⟩ := by unfold Addr.add; split <;> simp_all
    rw [e1] at q
    exact ⟨b, off, rfl, World.block_lt_of_cell? w _ q, q⟩
set_option maxRecDepth 100000 in
set_option maxHeartbeats 4000000 in
theorem sameWS {w : World} {a b : Option Addr} {n ca cb : Nat} {ws : List Int} (hu : Src w a n ca ws) (hv : Src w b n cb ws) (hsm : n ≤ 140737488351232) :
    Calls Try.prog 19 #[.slice a n ca, .slice b n cb] w fun e w' => e = .returned (.bool true) ∧ Below w.heap.size w w' := by
  have hl := hu.1
  go_enter Try.func19, Try.ntmps19
  go_wp2
  go_loopg [5] n (fun k s wr => ∃ i : Nat, s = .int .i64 (i : Int) ∧ i + k = n ∧ Below w.heap.size w wr)
  case atStart => exact ⟨0, rfl, by omega, Below.refl _ _⟩
  case round =>
    obtain ⟨i, rfl, hi, B⟩ := hrel
    by_cases hlt : i < n
    · obtain ⟨gu, ou, rfl, hul, c1⟩ := src_add hu i (by omega)
      obtain ⟨gv, ov, rfl, hvl, c2⟩ := src_add hv i (by omega)
      replace c1 := (B.cell (p := ⟨gu, ou + i, none⟩) hul).trans c1
      replace c2 := (B.cell (p := ⟨gv, ov + i, none⟩) hvl).trans c2
      generalize hy : ws[i]?.getD 0 = y at *
      clear hy
      replace hu := Mr.hid hu
      replace hv := Mr.hid hv
      replace hl := Mr.hid hl
      have hB := Mr.hid B
      clear B
      go_wp2
      go_region
      all_goals go_wp2
      all_goals go_roundg (gk - 1)
      case measure => omega
      case rel => exact ⟨i + 1, by simp, by omega, hB.out.drew⟩
    · have hle : n ≤ i := by omega
      replace hu := Mr.hid hu
      replace hv := Mr.hid hv
      replace hl := Mr.hid hl
      go_wp2
      go_ret
      exact ⟨rfl, B⟩
/-- What a Play of this script answers, wherever it lies. -/
def Pl (f : Nat) (th : Int) (ws : List Int) (ms : List Mv) (cls : List Cl) (lg : List Acc) (wr : List Int) (code : Int) : Prop :=
  ∀ (W : World) (a : Option Addr) (n cap : Nat) (am : Option Addr) (nm cm : Nat), Src W a n cap ws → MvAt W am nm ms →
    Calls Try.prog f #[.int .i64 th, .slice a n cap, .slice am nm cm] W fun e w' => ∃ v1 v2 v4, e = .returned (.tuple #[runV v1 v2 (.slice none 0 0) v4, .int .i64 code]) ∧ Has w' (fun k => W.heap.size ≤ k) 78 9 v1 cls.length (clc cls) ∧ Has w' (fun k => W.heap.size ≤ k) 128 7 v2 lg.length (lgc lg) ∧ Has w' (fun k => W.heap.size ≤ k) 59 1 v4 wr.length (wrd wr) ∧ Below W.heap.size W w'
theorem nil_post {W : World} {code : Int} {e : Ending} {w' : World} (h : e = .returned (.tuple #[nil4, .int .i64 code]) ∧ Below W.heap.size W w') : ∃ v1 v2 v4, e = .returned (.tuple #[runV v1 v2 (.slice none 0 0) v4, .int .i64 code]) ∧ Has w' (fun k => W.heap.size ≤ k) 78 9 v1 ([] : List Cl).length (clc []) ∧ Has w' (fun k => W.heap.size ≤ k) 128 7 v2 ([] : List Acc).length (lgc []) ∧ Has w' (fun k => W.heap.size ≤ k) 59 1 v4 ([] : List Int).length (wrd []) ∧ Below W.heap.size W w' :=
  ⟨_, _, _, h.1, Has.nil _ _ _ _, Has.nil _ _ _ _, Has.nil _ _ _ _, h.2⟩
theorem play_wf (nth : Nat) (ws : List Int) (ms : List Mv) : Wf ((Pm.new nth ws).play ms) ∧ ((Pm.new nth ws).play ms).ws.length = ws.length := by
  unfold Pm.play
  have : ∀ (l : List Mv) (P : Pm), Wf P → Wf (l.foldl (fun P m => (P.move m.th m.op m.arg m.data).1) P) ∧ (l.foldl (fun P m => (P.move m.th m.op m.arg m.data).1) P).ws.length = P.ws.length := by
    intro l
    induction l with
    | nil => exact fun P h => ⟨h, rfl⟩
    | cons m l ih => exact fun P h => ⟨(ih _ (move_wf h _ _ _ _)).1, (ih _ (move_wf h _ _ _ _)).2.trans (move_ws P _ _ _ _)⟩
  exact this ms _ (new_wf nth ws)
theorem both (th : Int) (ws : List Int) (ms : List Mv) : ∃ cls lg wr code, cls.length ≤ 1000000 ∧ lg.length ≤ 1000000 ∧ wr.length ≤ 1000000 ∧ Pl 21 th ws ms cls lg wr code ∧ Pl 22 th ws ms cls lg wr code := by
  by_cases hth : th < 1 ∨ 16 < th
  · exact ⟨[], [], [], 1, by simp, by simp, by simp, fun W a n cap am nm cm _ _ => (playM_cfg W th hth a n cap am nm cm).mono fun _ _ h => nil_post h, fun W a n cap am nm cm _ _ => (Play_cfg W th hth a n cap am nm cm).mono fun _ _ h => nil_post h⟩
  · obtain ⟨nth, rfl⟩ : ∃ nth : Nat, th = nth := ⟨th.toNat, by omega⟩
    have h1 : 1 ≤ nth := by omega
    have h2 : nth ≤ 16 := by omega
    by_cases hw : 8192 < ws.length
    · exact ⟨[], [], [], 3, by simp, by simp, by simp, fun W a n cap am nm cm hs _ => (playM_words W nth (by omega) (by omega) a n cap (by rw [hs.1]; exact hw) am nm cm).mono fun _ _ h => nil_post h, fun W a n cap am nm cm hs _ => (Play_long W nth (by omega) (by omega) a n cap am nm cm (.inl (by rw [hs.1]; exact hw))).mono fun _ _ h => nil_post h⟩
    · by_cases hm : 65536 < ms.length
      · exact ⟨[], [], [], 3, by simp, by simp, by simp, fun W a n cap am nm cm hs hmv => (playM_moves W nth h1 h2 a n cap ws hs (by rw [hs.1]; omega) am nm cm (by rw [hmv.1]; exact hm)).mono fun _ _ h => nil_post h, fun W a n cap am nm cm hs hmv => (Play_long W nth (by omega) (by omega) a n cap am nm cm (.inr (by rw [hmv.1]; exact hm))).mono fun _ _ h => nil_post h⟩
      · obtain ⟨hwf, hws⟩ := play_wf nth ws ms
        refine ⟨((Pm.new nth ws).play ms).cls, ((Pm.new nth ws).play ms).lg, ((Pm.new nth ws).play ms).ws, 0, ?_, ?_, ?_, fun W a n cap am nm cm hs hmv => play_ok W nth h1 h2 a n cap ws hs (by rw [hs.1]; omega) am nm cm ms hmv (by rw [hmv.1]; omega), fun W a n cap am nm cm hs hmv => Play_ok W nth h1 h2 a n cap ws hs (by rw [hs.1]; omega) am nm cm ms hmv (by rw [hmv.1]; omega)⟩
        · have := hwf.cls; have := hwf.n; omega
        · have := hwf.lg; have := hwf.n; omega
        · omega
end Go.Proofs.Ytglppcoohojmpaa.Rf
/-
  Scripts and runs in their boxes, and what MachinePlays keeps.
-/
namespace Go.Proofs.Ytglppcoohojmpaa.Rf
open Go.RowKit Mr Me Ma
theorem drew_heap (W : World) : W.drew.heap = W.heap := rfl
theorem alloc_at (W : World) (o x : Obj) : ((W.alloc o).heap[W.heap.size]? = some x) = (o = x) := by rw [heap_alloc_new]; simp
theorem not_there (W : World) (x : Obj) : (W.heap[W.heap.size]? = some x) = False := by simp
/-- The script in its box. -/
def K3 (w W : World) (x y z : Value) : Prop := Below w.heap.size w W ∧ W.heap[w.heap.size]? = some (.cells #[x, y, z] 25 (0, 0))
theorem K3.below {w W W' : World} {x y z : Value} (h : K3 w W x y z) (hB : Below W.heap.size W W') : K3 w W' x y z :=
  ⟨h.1.trans (hB.mono h.1.size), (hB.block _ (Array.getElem?_eq_some_iff.1 h.2).1).trans h.2⟩
theorem K3.cells {w W : World} {x y z : Value} (h : K3 w W x y z) : W.cell? ⟨w.heap.size, 0, none⟩ = some x ∧ W.cell? ⟨w.heap.size, 1, none⟩ = some y ∧ W.cell? ⟨w.heap.size, 2, none⟩ = some z ∧ w.heap.size < W.heap.size := by
  refine ⟨?_, ?_, ?_, (Array.getElem?_eq_some_iff.1 h.2).1⟩ <;> simp [World.cell?, h.2]
/-- A run in its box. -/
structure Rb (W : World) (B : Nat) (v1 v2 v4 : Value) (cls : List Cl) (lg : List Acc) (wr : List Int) : Prop where
  r0 : W.heap[B]? = some (.cells #[v1, v2, .slice none 0 0, v4] 53 (0, 0))
  h1 : Has W (fun _ => True) 78 9 v1 cls.length (clc cls)
  h2 : Has W (fun _ => True) 128 7 v2 lg.length (lgc lg)
  h4 : Has W (fun _ => True) 59 1 v4 wr.length (wrd wr)
theorem Rb.below {W W' : World} {B : Nat} {v1 v2 v4 : Value} {cls : List Cl} {lg : List Acc} {wr : List Int} (h : Rb W B v1 v2 v4 cls lg wr) (hB : Below W.heap.size W W') : Rb W' B v1 v2 v4 cls lg wr :=
  ⟨(hB.block _ (Array.getElem?_eq_some_iff.1 h.r0).1).trans h.r0, h.h1.below hB, h.h2.below hB, h.h4.below hB⟩
theorem Rb.cells {W : World} {B : Nat} {v1 v2 v4 : Value} {cls : List Cl} {lg : List Acc} {wr : List Int} (h : Rb W B v1 v2 v4 cls lg wr) : W.cell? ⟨B, 0, none⟩ = some v1 ∧ W.cell? ⟨B, 1, none⟩ = some v2 ∧ W.cell? ⟨B, 2, none⟩ = some (.slice none 0 0) ∧ W.cell? ⟨B, 3, none⟩ = some v4 := by
  refine ⟨?_, ?_, ?_, ?_⟩ <;> simp [World.cell?, h.r0]
/-- An empty run's box is made, a call makes a run, the run is put into the box. -/
theorem rb_open {W W1 W5 : World} {u1 u2 u4 : Value} {cls : List Cl} {lg : List Acc} {wr : List Int} {S : Nat → Prop}
    (h1 : W1 = (W.alloc (.cells #[.slice none 0 0, .slice none 0 0, .slice none 0 0, .slice none 0 0] 53)).drew) (hB : Below W1.heap.size W1 W5)
    (hu1 : Has W5 S 78 9 u1 cls.length (clc cls)) (hu2 : Has W5 S 128 7 u2 lg.length (lgc lg)) (hu4 : Has W5 S 59 1 u4 wr.length (wrd wr)) :
    Below W.heap.size W ((((W5.setCell ⟨W.heap.size, 0, none⟩ u1).setCell ⟨W.heap.size, 1, none⟩ u2).setCell ⟨W.heap.size, 2, none⟩ (.slice none 0 0)).setCell ⟨W.heap.size, 3, none⟩ u4) ∧
    Rb ((((W5.setCell ⟨W.heap.size, 0, none⟩ u1).setCell ⟨W.heap.size, 1, none⟩ u2).setCell ⟨W.heap.size, 2, none⟩ (.slice none 0 0)).setCell ⟨W.heap.size, 3, none⟩ u4) W.heap.size u1 u2 u4 cls lg wr := by
  have hsz : W1.heap.size = W.heap.size + 1 := by rw [h1]; simp
  have le := hB.size
  have hBW : Below W.heap.size W W1 := by
    rw [h1]
    exact ((Below.refl _ _).alloc (Nat.le_refl _) _).drew
  have hB5 : Below W.heap.size W W5 := hBW.trans (hB.mono (by omega))
  have hbox : W5.heap[W.heap.size]? = some (.cells #[.slice none 0 0, .slice none 0 0, .slice none 0 0, .slice none 0 0] 53 (0, 0)) := by
    rw [hB.block _ (by omega), h1]
    exact heap_alloc_new W _
  refine ⟨(((hB5.setCell (p := ⟨W.heap.size, 0, none⟩) (Nat.le_refl _) _).setCell (p := ⟨W.heap.size, 1, none⟩) (Nat.le_refl _) _).setCell (p := ⟨W.heap.size, 2, none⟩) (Nat.le_refl _) _).setCell (p := ⟨W.heap.size, 3, none⟩) (Nat.le_refl _) _, ?_⟩
  obtain ⟨W6, hW6⟩ : ∃ W6, (((W5.setCell ⟨W.heap.size, 0, none⟩ u1).setCell ⟨W.heap.size, 1, none⟩ u2).setCell ⟨W.heap.size, 2, none⟩ (.slice none 0 0)).setCell ⟨W.heap.size, 3, none⟩ u4 = W6 := ⟨_, rfl⟩
  have hoth : ∀ k, k ≠ W.heap.size → W6.heap[k]? = W5.heap[k]? := fun k hk => by
    rw [← hW6, Below.heap_setCell _ _ _ k hk, Below.heap_setCell _ _ _ k hk, Below.heap_setCell _ _ _ k hk, Below.heap_setCell _ _ _ k hk]
  have kh : ∀ {e size m : Nat} {v : Value} {xs : List Value}, 53 ≠ e → Has W5 S e size v m xs → Has W6 (fun _ => True) e size v m xs := fun {e size m v xs} hne hh =>
    hh.kept (fun k hk => hoth k (fun e' => not_row hbox hh hne (e' ▸ hk))) (fun _ _ => trivial)
  rw [hW6]
  refine ⟨?_, kh (by decide) hu1, kh (by decide) hu2, kh (by decide) hu4⟩
  rw [← hW6, setBlk (setBlk (setBlk (setBlk hbox 0 _) 1 _) 2 _) 3 _]
  rfl
/-- The same, where the call comes first. -/
theorem rb_more {W W5 : World} {u1 u2 u4 : Value} {cls : List Cl} {lg : List Acc} {wr : List Int} {S : Nat → Prop} (hB : Below W.heap.size W W5)
    (hu1 : Has W5 S 78 9 u1 cls.length (clc cls)) (hu2 : Has W5 S 128 7 u2 lg.length (lgc lg)) (hu4 : Has W5 S 59 1 u4 wr.length (wrd wr)) :
    Below W.heap.size W (W5.alloc (.cells #[u1, u2, .slice none 0 0, u4] 53)) ∧ Rb (W5.alloc (.cells #[u1, u2, .slice none 0 0, u4] 53)) W5.heap.size u1 u2 u4 cls lg wr :=
  ⟨hB.alloc hB.size _, heap_alloc_new W5 _, (hu1.alloc _).mono (fun _ _ => trivial), (hu2.alloc _).mono (fun _ _ => trivial), (hu4.alloc _).mono (fun _ _ => trivial)⟩
/-- What the law keeps from the copies on. -/
structure Kw (w W : World) (x y z : Value) (g nm cg : Nat) (ms : List Mv) (h n ch : Nat) (ws : List Int) : Prop where
  k : K3 w W x y z
  mv : Has W (fun _ => True) 46 4 (.slice (some ⟨g, 0, none⟩) (nm + 9) cg) (nm + 9) (mvc (twl ms 9))
  wd : Has W (fun _ => True) 59 1 (.slice (some ⟨h, 0, none⟩) (n + 1) ch) (n + 1) (wrd ws ++ [.int .u64 4711])
theorem Kw.below {w W W' : World} {x y z : Value} {g nm cg : Nat} {ms : List Mv} {h n ch : Nat} {ws : List Int} (H : Kw w W x y z g nm cg ms h n ch ws) (hB : Below W.heap.size W W') : Kw w W' x y z g nm cg ms h n ch ws :=
  ⟨H.k.below hB, H.mv.below hB, H.wd.below hB⟩
theorem Kw.mvs {w W : World} {x y z : Value} {g nm cg : Nat} {ms : List Mv} {h n ch : Nat} {ws : List Int} (H : Kw w W x y z g nm cg ms h n ch ws) (hl : nm = ms.length) : MvAt W (some ⟨g, 0, none⟩) nm ms := by
  have e : mvc (twl ms 9) = mvc ms ++ mvc ((List.range 9).map tw) := by rw [twl, mvc_append]
  have := H.mv
  rw [e] at this
  exact has_mvat (has_take this (by rw [mvc_length, hl]))
theorem Kw.wds {w W : World} {x y z : Value} {g nm cg : Nat} {ms : List Mv} {h n ch : Nat} {ws : List Int} (H : Kw w W x y z g nm cg ms h n ch ws) (hl : n = ws.length) : Src W (some ⟨h, 0, none⟩) n ch ws := by
  have h1 := has_take H.wd (by rw [hl]; simp [wrd])
  refine ⟨hl, .inr ⟨_, rfl, fun j u hu => ?_⟩⟩
  have hadd : (⟨h, 0, none⟩ : Addr).add j = ⟨h, j, none⟩ := by unfold Addr.add; split <;> simp_all
  rw [hadd]
  exact h1.cells (g := h) rfl j u hu
theorem Kw.last {w W : World} {x y z : Value} {g nm cg : Nat} {ms : List Mv} {h n ch : Nat} {ws : List Int} (H : Kw w W x y z g nm cg ms h n ch ws) (hl : n = ws.length) : W.cell? ⟨h, n, none⟩ = some (.int .u64 4711) :=
  H.wd.cells (g := h) rfl n _ (by rw [hl]; simp [wrd])
end Go.Proofs.Ytglppcoohojmpaa.Rf
/-
  A Script that came in, with the reach of its rows.
-/
namespace Go.Proofs.Ytglppcoohojmpaa.Ma
open Go.ChangeShapes Go.WideShapes Go.ChangeAt Go.RowKit Go.Deep Mr Me
set_option linter.unusedVariables false
theorem bytes_u64 : Try.prog.bytesOf 59 = 8 := by kernel_rfl
theorem bytes_mv : Try.prog.bytesOf 46 = 32 := by kernel_rfl
section
variable {H : Type} {enc : TypeId × Value → H} {w : World} {base : Nat} {spare : Nat → Bool} {held : Bool}
theorem len_slice {fuel : Nat} {cs : List Value} {x : DataW H × List MemPlace} {t e : TypeId} {a : Option Addr} {n cap : Nat} (ht : Try.prog.underlying t = some (.slice e)) (hf : DataW.trod enc Try.prog w base spare held fuel t cs = some x) (hc : cs = [.slice a n cap]) : n = 0 ∨ ∃ es rs, x.1 = .slice es rs ∧ es.length = n := by
  rcases open_slice ht hf with ⟨h, _⟩ | ⟨ad, n', cap', m, k, D, Pl, h, _, _, _, _, hx, _⟩
  · rw [hc] at h
    simp at h
    exact .inl h.2.1
  · rw [hc] at h
    simp at h
    obtain ⟨_, rfl, _⟩ := h
    exact .inr ⟨_, _, by rw [hx], by simp⟩
theorem reach_of {n b : Nat} {P : Program} {ts : List TypeId} {ds : List (DataW H)} (hsz : (DataW.weightsEach P ts ds).all (· ≤ reachBytes) = true) {j : Nat} {t e : TypeId} {d : DataW H} (ht : ts[j]? = some t) (hd : ds[j]? = some d) (hu : P.underlying t = some (.slice e)) (hb : P.bytesOf e = b) (h : n = 0 ∨ ∃ es rs, d = .slice es rs ∧ es.length = n) : n * b ≤ 140737488351232 := by
  rcases h with rfl | ⟨es, rs, rfl, rfl⟩
  · omega
  · have := sized_slice hsz ht hd hu
    rw [hb] at this
    have e : reachBytes = 140737488351232 := by decide
    rw [e, Nat.add_mul] at this
    omega
set_option maxRecDepth 100000 in
theorem open_scriptz {r : Reach} {b0 : Nat} {v : Value} {d : DataW H} {p : List MemPlace} (hv : Value.okWide Try.prog w r b0 25 v) (h : DataW.Trod enc Try.prog w base spare held 25 v d p) (hsz : (d.weights Try.prog 25).all (· ≤ reachBytes) = true) :
    ∃ th a n cap ws am nm cm ms, v = .agg #[.int .i64 th, .slice a n cap, .slice am nm cm] ∧ Src w a n cap ws ∧ MvAt w am nm ms ∧ n ≤ cap ∧ nm ≤ cm ∧ n * 8 ≤ 140737488351232 ∧ nm * 32 ≤ 140737488351232 := by
  obtain ⟨cs, rfl, hcz⟩ := okWide_struct Try.underlying25 hv
  rw [cells_sc] at hcz
  obtain ⟨fuel, hfu⟩ := h
  obtain ⟨xs, n, _, hxx, hl, hxl, hx⟩ := DataW.trod_struct Try.underlying25 hfu
  have hcs : (Value.agg cs).cells.toList = cs.toList := rfl
  rw [hcs] at hx
  obtain ⟨l, rfl⟩ : ∃ l : List Value, cs = l.toArray := ⟨cs.toList, by simp⟩
  match l, hcz with
  | [x0, x1, x2], _ =>
    have q0 := hx 0 _ rfl
    have q1 := hx 1 _ rfl
    have q2 := hx 2 _ rfl
    have hxs : xs.length = 3 := by simpa using hxl
    match xs, hxs with
    | [y0, y1, y2], _ =>
      obtain ⟨th, e0, _, _⟩ := DataW.trod_int Try.underlying3 q0
      obtain ⟨a, n, cap, ws, e1, hs, hn⟩ := open_lws q1
      obtain ⟨am, nm, cm, ms, e2, hm, hnm⟩ := open_mvs q2
      have f1 := len_slice Try.underlying22 q1 e1
      have f2 := len_slice Try.underlying23 q2 e2
      have hd : d = .agg [y0.1, y1.1, y2.1] := by simpa using congrArg Prod.fst hxx
      subst hd
      simp only [DataW.weights, Try.underlying25] at hsz
      have g1 := reach_of (n := n) hsz (j := 1) (t := 22) rfl rfl Try.underlying22 bytes_u64 f1
      have g2 := reach_of (n := nm) hsz (j := 2) (t := 23) rfl rfl Try.underlying23 bytes_mv f2
      simp [cells_i64] at e0
      simp [cells_lw] at e1
      simp [cells_lm] at e2
      subst e0; subst e1; subst e2
      exact ⟨th, a, n, cap, ws, am, nm, cm, ms, rfl, hs, hm, hn, hnm, g1, g2⟩
end
end Go.Proofs.Ytglppcoohojmpaa.Ma
