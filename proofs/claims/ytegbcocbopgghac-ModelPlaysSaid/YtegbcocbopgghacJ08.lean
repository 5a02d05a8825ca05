import Derived.Test.YtegbcocbopgghacJ07
import Derived.Deep.RegionLaw
/-
  reclaimmodel.keyed: the list's and the table's.
-/
namespace Go.Proofs.Ytegbcocbopgghac.Md
open Go.RowKit Mr Me
set_option linter.unusedVariables false
set_option linter.unusedSimpArgs false
def Tk (S : Nat → Prop) (lo : Nat) : Nat → Prop := fun k => (S k ∧ k < lo) ∨ lo + 3 ≤ k
theorem yes_k (b : Bool) (k : Int) (hk : Hid (k = if b then 5 else 6)) (w : World) : Calls Try.prog 48 #[.bool b] w fun e w' => e = .returned (ans k 0) ∧ Below w.heap.size w w' := by
  rw [hk.out]; exact yes_any b w
theorem key_pre {W : World} {S : Nat → Prop} {u0 u1 u2 u3 u4 : Value} {x : Ct} (hu : CtHas W S u0 u1 u2 u3 u4 x) :
    Ds W (((W.alloc (ctO u0 u1 u2 u3 u4)).alloc (ctO (.slice none 0 0) (.slice none 0 0) (.slice none 0 0) (.slice none 0 0) (.slice none 0 0))).alloc (ansO 0 0)) (Tk S W.heap.size) W.heap.size u0 u1 u2 u3 u4 x := by
  have B0 := (((Below.refl W.heap.size W).alloc (Nat.le_refl _) (ctO u0 u1 u2 u3 u4)).alloc (by simp) (ctO (.slice none 0 0) (.slice none 0 0) (.slice none 0 0) (.slice none 0 0) (.slice none 0 0))).alloc (by simp; omega) (ansO 0 0)
  have keep : ∀ {e size m : Nat} {v : Value} {xs : List Value}, Has W S e size v m xs → Has (((W.alloc (ctO u0 u1 u2 u3 u4)).alloc (ctO (.slice none 0 0) (.slice none 0 0) (.slice none 0 0) (.slice none 0 0) (.slice none 0 0))).alloc (ansO 0 0)) (fun k => Tk S W.heap.size k ∧ k ≠ W.heap.size ∧ (k < W.heap.size ∨ W.heap.size + 3 ≤ k)) e size v m xs := fun {e size m v xs} hh => hh.kept (fun k hk => B0.block k (hh.lt k hk).2) (fun k hk => by have := (hh.lt k hk); exact ⟨.inl this, by omega, .inl this.2⟩)
  exact ⟨B0, old_at (new_at _ _ _ (by simp)) _, new_at _ _ _ (by simp), old_at (old_at (new_at W _ _ rfl) _) _, .inl rfl, CtHas.at ⟨keep hu.cell, keep hu.stack, keep hu.queue, keep hu.set, keep hu.table⟩⟩
theorem dan_50 (x : Ct) (arg : Int) : dan x 50 arg = (if inB x.set arg then 6 else 5, 0) := rfl
theorem dan_51 (x : Ct) (arg : Int) : dan x 51 arg = (if inB x.set arg then 5 else 6, 0) := rfl
theorem dan_60 (x : Ct) (arg : Int) : dan x 60 arg = (if inB (keysOf x.table) arg then 6 else 5, 0) := rfl
theorem dan_61 (x : Ct) (arg : Int) : dan x 61 arg = getT x.table arg := rfl
theorem dan_62 (x : Ct) (arg : Int) : dan x 62 arg = getT x.table arg := rfl
theorem getT_n {l : List (Int × Int)} {k : Int} (h : inB (keysOf l) k = false) : getT l k = (6, 0) := by unfold getT; rw [h]; rfl
theorem getT_y {l : List (Int × Int)} {k : Int} (h : inB (keysOf l) k = true) : getT l k = (2, (l[plc (keysOf l) k]?.getD (0, 0)).2) := by unfold getT; rw [h]; rfl
theorem dnx_50 (x : Ct) (arg data : Int) : dnx x 50 arg data = { x with set := if inB x.set arg then x.set else insL x.set arg } := rfl
theorem dnx_51 (x : Ct) (arg data : Int) : dnx x 51 arg data = { x with set := if inB x.set arg then delL x.set arg else x.set } := rfl
theorem dnx_60 (x : Ct) (arg data : Int) : dnx x 60 arg data = { x with table := if inB (keysOf x.table) arg then x.table else insT x.table arg data } := rfl
theorem dnx_61 (x : Ct) (arg data : Int) : dnx x 61 arg data = { x with table := if inB (keysOf x.table) arg then delT x.table arg else x.table } := rfl
theorem inB_lt {l : List Int} {k : Int} (h : inB l k = true) : plc l k < l.length := by
  unfold inB at h
  by_cases hl : plc l k < l.length
  · exact hl
  · rw [in_no (by omega)] at h; cases h
theorem plc_le (l : List Int) (k : Int) : plc l k ≤ l.length := by unfold plc; exact (List.takeWhile_sublist _).length_le
/-- The rows within keyed. -/
def Tn (S : Nat → Prop) (lo : Nat) : Nat → Prop := fun k => Tk S lo k ∧ k ≠ lo ∧ (k < lo ∨ lo + 3 ≤ k)
theorem tn_new {S : Nat → Prop} {lo k : Nat} (h : lo + 3 ≤ k) : Tn S lo k := ⟨.inr h, by omega, .inr h⟩
theorem has_take {w : World} {S : Nat → Prop} {e : TypeId} {size n cap : Nat} {a : Option Addr} {xs : List Value} (h : Has w S e size (.slice a n cap) n xs) (p : Nat) (hp : p ≤ n) :
    (a = none → p = 0) ∧ ∀ w', Below w.heap.size w w' → ∀ ad, a = some ad → ∀ (j : Nat) (u : Value), (xs.take (p * size))[j]? = some u → w'.cell? (ad.add j) = some u := by
  rcases h.2 with ⟨e1, rfl⟩ | ⟨g, cap', cur, e1, hS, hg, _⟩
  · cases e1
    exact ⟨fun _ => (by omega), fun w' _ ad e => (by cases e)⟩
  · cases e1
    refine ⟨fun e => (by cases e), fun w' hB ad e j u hu => ?_⟩
    cases e
    rw [add1, Nat.zero_add]
    refine (hB.cell (p := ⟨g, j, none⟩) (Array.getElem?_eq_some_iff.1 hg).1).trans (h.cells rfl j u ?_)
    rw [List.getElem?_take] at hu
    split at hu
    · exact hu
    · cases hu
theorem has_drop {w : World} {S : Nat → Prop} {e : TypeId} {size n cap : Nat} {a : Option Addr} {xs : List Value} (h : Has w S e size (.slice a n cap) n xs) (p : Nat) (hp : p ≤ n) (b : Option Addr) (hb : p = n ∨ b = a.map (·.add (p * size))) :
    (b = none → n - p = 0) ∧ ∀ w', Below w.heap.size w w' → ∀ ad, b = some ad → ∀ (j : Nat) (u : Value), (xs.drop (p * size))[j]? = some u → w'.cell? (ad.add j) = some u := by
  have hl := h.1
  rcases hb with rfl | rfl
  · refine ⟨fun _ => by omega, fun w' _ ad _ j u hu => ?_⟩
    rw [List.drop_of_length_le (by omega)] at hu
    simp at hu
  · rcases h.2 with ⟨e1, rfl⟩ | ⟨g, cap', cur, e1, hS, hg, _⟩
    · cases e1
      exact ⟨fun _ => (by omega), fun w' _ ad e => (by cases e)⟩
    · cases e1
      refine ⟨fun e => (by cases e), fun w' hB ad e j u hu => ?_⟩
      simp only [Option.map_some, Option.some.injEq] at e
      subst e
      rw [add1, add1, Nat.zero_add]
      refine (hB.cell (p := ⟨g, p * size + j, none⟩) (Array.getElem?_eq_some_iff.1 hg).1).trans (h.cells rfl (p * size + j) u ?_)
      rw [List.getElem?_drop] at hu
      exact hu
theorem ints_take (l : List Int) (p : Nat) : (ints l).take (p * 1) = ints (l.take p) := by simp [ints, List.map_take]
theorem ints_drop (l : List Int) (p : Nat) : (ints l).drop (p * 1) = ints (l.drop p) := by simp [ints, List.map_drop]
theorem own_ge {a : Nat} {v : Value} {g : Nat} {n cap : Nat} {o : Obj} {w6 : World} (h6 : ∀ k, v.ownBlock = some k → k = a) (h7 : v.ownBlock = some g ∨ g = (w6.drew.alloc o).heap.size) (hs : a ≤ w6.heap.size) : ∀ k, (Value.slice (some ⟨g, 0, none⟩) n cap).ownBlock = some k → a ≤ k := fun k hk => by
  simp [Value.ownBlock] at hk
  subst hk
  rcases h7 with h | h
  · exact Nat.le_of_eq (h6 _ h).symm
  · simp at h; omega
theorem ins_eq {l : List Int} {p : Nat} {k : Int} (h : p = plc l k) (hp : p ≤ l.length) : p + 1 + (l.length - p) = (insL l k).length ∧ ints (l.take p) ++ [.int .i64 k] ++ ints (l.drop p) = ints (insL l k) := by
  subst h
  refine ⟨by simp [insL]; omega, by simp [insL, ints]⟩
theorem news_one (w : World) (o : Obj) (arg : Int) (ho : o = .cells #[.int .i64 arg] 3 (0, 0)) : ∀ (j : Nat) (u : Value), ([.int .i64 arg] : List Value)[j]? = some u → (w.alloc o).cell? ((⟨w.heap.size, 0, none⟩ : Addr).add j) = some u := fun j u hu => by
  subst ho
  match j, hu with
  | 0, hu => simp at hu; subst hu; rw [add1]; exact cell_blk (new_at w _ _ rfl) 0
  | j + 1, hu => simp at hu
theorem add_pos (a : Option Addr) (n : Nat) : Option.map (fun x : Addr => { block := x.block, off := x.off + (n + 1) }) a = Option.map (fun x => x.add (n + 1)) a := by cases a <;> simp [Addr.add]
theorem del_eq {l : List Int} {p : Nat} {k : Int} (h : p = plc l k) (hp : p < l.length) : p + (l.length - (p + 1)) = (delL l k).length ∧ ints (l.take p) ++ ints (l.drop (p + 1)) = ints (delL l k) := by
  subst h
  refine ⟨by simp [delL]; omega, by simp [delL, ints]⟩
theorem prs_take (l : List (Int × Int)) (p : Nat) : (prs l).take (p * 2) = prs (l.take p) := by
  induction l generalizing p with
  | nil => simp [prs]
  | cons x l ih =>
    cases p with
    | zero => simp [prs]
    | succ p =>
      have := ih p
      simp only [prs, pr, List.flatMap_cons, List.take_succ_cons] at this ⊢
      rw [show (p + 1) * 2 = p * 2 + 2 from by omega]
      simp [this]
theorem prs_drop (l : List (Int × Int)) (p : Nat) : (prs l).drop (p * 2) = prs (l.drop p) := by
  induction l generalizing p with
  | nil => simp [prs]
  | cons x l ih =>
    cases p with
    | zero => simp [prs]
    | succ p =>
      have := ih p
      simp only [prs, pr, List.flatMap_cons, List.drop_succ_cons] at this ⊢
      rw [show (p + 1) * 2 = p * 2 + 2 from by omega]
      simp [this]
theorem insT_eq {l : List (Int × Int)} {p : Nat} {k d : Int} (h : p = plc (l.map Prod.fst) k) (hp : p ≤ l.length) : p + 1 + (l.length - p) = (insT l k d).length ∧ prs (l.take p) ++ [.int .i64 k, .int .i64 d] ++ prs (l.drop p) = prs (insT l k d) := by
  subst h
  refine ⟨by simp [insT, keysOf] at hp ⊢; omega, by simp [insT, prs, pr, keysOf]⟩
theorem delT_eq {l : List (Int × Int)} {p : Nat} {k : Int} (h : p = plc (l.map Prod.fst) k) (hp : p < l.length) : p + (l.length - (p + 1)) = (delT l k).length ∧ prs (l.take p) ++ prs (l.drop (p + 1)) = prs (delT l k) := by
  subst h
  refine ⟨by simp [delT, keysOf] at hp ⊢; omega, by simp [delT, prs, keysOf]⟩
theorem news_pr (w : World) (o : Obj) (arg data : Int) (ho : o = .cells #[.int .i64 arg, .int .i64 data] 73 (0, 0)) : ∀ (j : Nat) (u : Value), ([.int .i64 arg, .int .i64 data] : List Value)[j]? = some u → (w.alloc o).cell? ((⟨w.heap.size, 0, none⟩ : Addr).add j) = some u := fun j u hu => by
  subst ho
  match j, hu with
  | 0, hu => simp at hu; subst hu; rw [add1]; exact cell_blk (new_at w _ _ rfl) 0
  | 1, hu => simp at hu; subst hu; rw [add1]; exact cell_blk (new_at w _ _ rfl) 1
  | j + 2, hu => simp at hu
theorem plcT_le (l : List (Int × Int)) (k : Int) : plc (l.map Prod.fst) k ≤ l.length := by have := plc_le (l.map Prod.fst) k; simpa using this
theorem inT_lt {l : List (Int × Int)} {k : Int} (h : inB (keysOf l) k = true) : plc (l.map Prod.fst) k < l.length := by have := inB_lt h; simpa [keysOf] using this
set_option maxRecDepth 100000 in
set_option maxHeartbeats 8000000 in
theorem key_52 {W : World} {S : Nat → Prop} {u0 u1 u2 u3 u4 : Value} {x : Ct} (hu : CtHas W S u0 u1 u2 u3 u4 x) (hin : CtIn 225000000000000 x) (arg data : Int) :
    Calls Try.prog 45 #[.agg #[u0, u1, u2, u3, u4], .int .i64 52, .int .i64 arg, .int .i64 data] W fun e w' => ∃ v0 v1 v2 v3 v4, e = .returned (.tuple #[.agg #[v0, v1, v2, v3, v4], ans (dan x 52 arg).1 (dan x 52 arg).2]) ∧ CtAt w' (Tk S W.heap.size) v0 v1 v2 v3 v4 (dnx x 52 arg data) ∧ Below W.heap.size W w' := by
  obtain ⟨a0, c0, rfl, _⟩ := hu.cell.form
  obtain ⟨a1, c1, rfl, _⟩ := hu.stack.form
  obtain ⟨a2, c2, rfl, _⟩ := hu.queue.form
  obtain ⟨a3, c3, rfl, _⟩ := hu.set.form
  obtain ⟨a4, c4, rfl, _⟩ := hu.table.form
  have hD0 := key_pre hu
  have hin3 := hin.set
  have hin4 := hin.table
  have hA := hu.at
  have CS := fun w' (hB : Below W.heap.size W w') => set_any (hA.below hB).set (by omega) arg
  have CT := fun w' (hB : Below W.heap.size W w') => table_any (hA.below hB).table (by omega) arg
  obtain ⟨k0, k1, k2, k3, k4, -⟩ := ctO_cells hD0.box
  have B0 := hD0.bel
  clear hA hin
  unfold ctO ansO at B0 k0 k1 k2 k3 k4
  obtain ⟨bi, hbi⟩ : ∃ b, b = inB x.set arg := ⟨_, rfl⟩
  obtain ⟨bt, hbt⟩ : ∃ b, b = inB (x.table.map Prod.fst) arg := ⟨_, rfl⟩
  obtain ⟨pi, hpi⟩ : ∃ b, b = plc x.set arg := ⟨_, rfl⟩
  obtain ⟨pt, hpt⟩ : ∃ b, b = plc (x.table.map Prod.fst) arg := ⟨_, rfl⟩
  simp only [← hbi, ← hbt, ← hpi, ← hpt] at CS CT
  replace hbi := Mr.hid hbi
  replace hbt := Mr.hid hbt
  replace hpi := Mr.hid hpi
  replace hpt := Mr.hid hpt
  replace hD0 := Mr.hid hD0
  replace CS := Mr.hid CS
  replace CT := Mr.hid CT
  replace B0 := Mr.hid B0
  replace hu := Mr.hid hu
  go_enter Try.func45, Try.ntmps45
  go_upto_region 3 with (first | (go_at_call 46; refine (CS.out _ B0.out).mono ?_; clear CS; rintro e w1 ⟨rfl, hB1⟩; have hD1 := hD0.out.below hB1; clear hD0 hB1; obtain ⟨k0, k1, k2, k3, k4, hl1⟩ := ctO_cells hD1.box; have B1 := hD1.bel; replace hD1 := Mr.hid hD1; replace B1 := Mr.hid B1) | (go_at_call 47; refine (CT.out _ B1.out).mono ?_; clear CT; rintro e w2 ⟨rfl, hB2⟩; have hD2 := hD1.out.below hB2; clear hD1 hB2 k0 k1 k2 k3 k4; obtain ⟨k0, k1, k2, k3, k4, hl2⟩ := ctO_cells hD2.box; have B2 := hD2.bel; replace hD2 := Mr.hid hD2; replace B2 := Mr.hid B2))
  rw [show W.heap.size + 1 + 1 = W.heap.size + 2 from rfl]
  go_upto_region 14 with (fail)
  obtain ⟨kk, hkk⟩ : ∃ k : Int, k = if bi then 5 else 6 := ⟨_, rfl⟩
  replace hkk := Mr.hid hkk
  have hD3 := hD2.out
  clear hD2 B2 k0 k1 k2 k3 k4 hl2
  obtain ⟨k0, k1, k2, k3, k4, hlt⟩ := ctO_cells hD3.box
  replace hD3 := Mr.hid hD3
  go_region_held3 (fun w' => w'.cell? ⟨W.heap.size, 0, none⟩ = some (.slice a0 x.cell.length c0) ∧ w'.cell? ⟨W.heap.size, 1, none⟩ = some (.slice a1 x.stack.length c1) ∧ w'.cell? ⟨W.heap.size, 2, none⟩ = some (.slice a2 x.queue.length c2) ∧ w'.cell? ⟨W.heap.size, 3, none⟩ = some (.slice a3 x.set.length c3) ∧ w'.cell? ⟨W.heap.size, 4, none⟩ = some (.slice a4 x.table.length c4)) (first | with_reducible exact K5.out | with_reducible exact K7.out | go_keep) (first | (go_at_call 48; refine (yes_k bi kk hkk _).mono ?_; rintro e w4 ⟨rfl, hB4⟩; have hD4 := hD3.out.drew.below hB4; clear hB4; unfold ans; obtain ⟨K5, K7⟩ := hD4.held kk 0; unfold set7 set5 at K7; unfold set5 at K5; replace K5 := Mr.hid K5; replace K7 := Mr.hid K7; obtain ⟨k0, k1, k2, k3, k4, hlt⟩ := ctO_cells hD4.box; obtain ⟨r0, r1, r2, r3, r4, hr⟩ := ctO_cells hD4.res; obtain ⟨f0, f1, f2, f3, f4⟩ := ctO_thaw hD4.res; obtain ⟨s0, s1, hs, s2, s3⟩ := ansO_cells hD4.ans; replace hD4 := Mr.hid hD4))
  obtain ⟨e1, e2, e3, e4⟩ := hD4.out.ends kk 0
  obtain ⟨d0, d1, d2, d3, d4, -⟩ := ctO_cells e3
  obtain ⟨g0, g1, -, -, -⟩ := ansO_cells e4
  unfold set7 set5 at e1 e2 d0 d1 d2 d3 d4 g0 g1
  replace e1 := Mr.hid e1
  replace e2 := Mr.hid e2
  clear e3 e4 hD4 K5 K7 k0 k1 k2 k3 k4 r0 r1 r2 r3 r4 f0 f1 f2 f3 f4 s0 s1 s2 s3
  go_wp2
  refine bodyPost_ret (v := .tuple #[.agg #[.slice a0 x.cell.length c0, .slice a1 x.stack.length c1, .slice a2 x.queue.length c2, .slice a3 x.set.length c3, .slice a4 x.table.length c4], .agg #[.int .i64 kk, .int .i64 0]]) (by simp [results, Try.results45, go_sem, d0, d1, d2, d3, d4, g0, g1]) rfl ?_
  exact ⟨_, _, _, _, _, by rw [hkk.out, hbi.out]; rfl, e1.out, e2.out⟩
set_option maxRecDepth 100000 in
set_option maxHeartbeats 8000000 in
theorem key_50y {W : World} {S : Nat → Prop} {u0 u1 u2 u3 u4 : Value} {x : Ct} (hu : CtHas W S u0 u1 u2 u3 u4 x) (hin : CtIn 225000000000000 x) (arg data : Int) (hi : Hid (inB x.set arg = true)) :
    Calls Try.prog 45 #[.agg #[u0, u1, u2, u3, u4], .int .i64 50, .int .i64 arg, .int .i64 data] W fun e w' => ∃ v0 v1 v2 v3 v4, e = .returned (.tuple #[.agg #[v0, v1, v2, v3, v4], ans (dan x 50 arg).1 (dan x 50 arg).2]) ∧ CtAt w' (Tk S W.heap.size) v0 v1 v2 v3 v4 (dnx x 50 arg data) ∧ Below W.heap.size W w' := by
  obtain ⟨a0, c0, rfl, _⟩ := hu.cell.form
  obtain ⟨a1, c1, rfl, _⟩ := hu.stack.form
  obtain ⟨a2, c2, rfl, _⟩ := hu.queue.form
  obtain ⟨a3, c3, rfl, _⟩ := hu.set.form
  obtain ⟨a4, c4, rfl, _⟩ := hu.table.form
  have hD0 := key_pre hu
  have hin3 := hin.set
  have hin4 := hin.table
  have hA := hu.at
  have CS := fun w' (hB : Below W.heap.size W w') => set_any (hA.below hB).set (by omega) arg
  have CT := fun w' (hB : Below W.heap.size W w') => table_any (hA.below hB).table (by omega) arg
  obtain ⟨k0, k1, k2, k3, k4, -⟩ := ctO_cells hD0.box
  have B0 := hD0.bel
  clear hA hin
  unfold ctO ansO at B0 k0 k1 k2 k3 k4
  obtain ⟨bi, hbi⟩ : ∃ b, b = inB x.set arg := ⟨_, rfl⟩
  obtain ⟨bt, hbt⟩ : ∃ b, b = inB (x.table.map Prod.fst) arg := ⟨_, rfl⟩
  obtain ⟨pi, hpi⟩ : ∃ b, b = plc x.set arg := ⟨_, rfl⟩
  obtain ⟨pt, hpt⟩ : ∃ b, b = plc (x.table.map Prod.fst) arg := ⟨_, rfl⟩
  simp only [← hbi, ← hbt, ← hpi, ← hpt] at CS CT
  have hbq : bi = true := hbi.trans hi.out
  subst hbq
  replace hbi := Mr.hid hbi
  replace hbt := Mr.hid hbt
  replace hpi := Mr.hid hpi
  replace hpt := Mr.hid hpt
  replace hD0 := Mr.hid hD0
  replace CS := Mr.hid CS
  replace CT := Mr.hid CT
  replace B0 := Mr.hid B0
  replace hu := Mr.hid hu
  go_enter Try.func45, Try.ntmps45
  go_upto_region 3 with (first | (go_at_call 46; refine (CS.out _ B0.out).mono ?_; clear CS; rintro e w1 ⟨rfl, hB1⟩; have hD1 := hD0.out.below hB1; clear hD0 hB1; obtain ⟨k0, k1, k2, k3, k4, hl1⟩ := ctO_cells hD1.box; have B1 := hD1.bel; replace hD1 := Mr.hid hD1; replace B1 := Mr.hid B1) | (go_at_call 47; refine (CT.out _ B1.out).mono ?_; clear CT; rintro e w2 ⟨rfl, hB2⟩; have hD2 := hD1.out.below hB2; clear hD1 hB2 k0 k1 k2 k3 k4; obtain ⟨k0, k1, k2, k3, k4, hl2⟩ := ctO_cells hD2.box; have B2 := hD2.bel; replace hD2 := Mr.hid hD2; replace B2 := Mr.hid B2))
  rw [show W.heap.size + 1 + 1 = W.heap.size + 2 from rfl]
  go_upto_region 8 with (fail)
  have hD3 := hD2.out
  clear hD2 B2 k0 k1 k2 k3 k4 hl2
  obtain ⟨k0, k1, k2, k3, k4, hlt⟩ := ctO_cells hD3.box
  replace hD3 := Mr.hid hD3
  go_region_held3 (fun w' => w'.cell? ⟨W.heap.size, 0, none⟩ = some (.slice a0 x.cell.length c0) ∧ w'.cell? ⟨W.heap.size, 1, none⟩ = some (.slice a1 x.stack.length c1) ∧ w'.cell? ⟨W.heap.size, 2, none⟩ = some (.slice a2 x.queue.length c2) ∧ w'.cell? ⟨W.heap.size, 3, none⟩ = some (.slice a3 x.set.length c3) ∧ w'.cell? ⟨W.heap.size, 4, none⟩ = some (.slice a4 x.table.length c4)) (first | with_reducible exact K5.out | with_reducible exact K7.out | go_keep) (first | (go_at_call 48; refine (yes_any false _).mono ?_; rintro e w4 ⟨rfl, hB4⟩; have hD4 := hD3.out.drew.below hB4; clear hB4; unfold ans; obtain ⟨K5, K7⟩ := hD4.held 6 0; unfold set7 set5 at K7; unfold set5 at K5; replace K5 := Mr.hid K5; replace K7 := Mr.hid K7; obtain ⟨k0, k1, k2, k3, k4, hlt⟩ := ctO_cells hD4.box; obtain ⟨r0, r1, r2, r3, r4, hr⟩ := ctO_cells hD4.res; obtain ⟨f0, f1, f2, f3, f4⟩ := ctO_thaw hD4.res; obtain ⟨s0, s1, hs, s2, s3⟩ := ansO_cells hD4.ans; replace hD4 := Mr.hid hD4))
  obtain ⟨e1, e2, e3, e4⟩ := hD4.out.ends 6 0
  obtain ⟨d0, d1, d2, d3, d4, -⟩ := ctO_cells e3
  obtain ⟨g0, g1, -, -, -⟩ := ansO_cells e4
  unfold set7 set5 at e1 e2 d0 d1 d2 d3 d4 g0 g1
  replace e1 := Mr.hid e1
  replace e2 := Mr.hid e2
  clear e3 e4 hD4 K5 K7 k0 k1 k2 k3 k4 r0 r1 r2 r3 r4 f0 f1 f2 f3 f4 s0 s1 s2 s3
  go_wp2
  refine bodyPost_ret (v := .tuple #[.agg #[.slice a0 x.cell.length c0, .slice a1 x.stack.length c1, .slice a2 x.queue.length c2, .slice a3 x.set.length c3, .slice a4 x.table.length c4], .agg #[.int .i64 6, .int .i64 0]]) (by simp [results, Try.results45, go_sem, d0, d1, d2, d3, d4, g0, g1]) rfl ?_
  exact ⟨_, _, _, _, _, by rw [dan_50 x arg, hi.out]; rfl, by rw [dnx_50 x arg data, hi.out]; exact e1.out, e2.out⟩
set_option maxRecDepth 100000 in
set_option maxHeartbeats 8000000 in
theorem key_51n {W : World} {S : Nat → Prop} {u0 u1 u2 u3 u4 : Value} {x : Ct} (hu : CtHas W S u0 u1 u2 u3 u4 x) (hin : CtIn 225000000000000 x) (arg data : Int) (hi : Hid (inB x.set arg = false)) :
    Calls Try.prog 45 #[.agg #[u0, u1, u2, u3, u4], .int .i64 51, .int .i64 arg, .int .i64 data] W fun e w' => ∃ v0 v1 v2 v3 v4, e = .returned (.tuple #[.agg #[v0, v1, v2, v3, v4], ans (dan x 51 arg).1 (dan x 51 arg).2]) ∧ CtAt w' (Tk S W.heap.size) v0 v1 v2 v3 v4 (dnx x 51 arg data) ∧ Below W.heap.size W w' := by
  obtain ⟨a0, c0, rfl, _⟩ := hu.cell.form
  obtain ⟨a1, c1, rfl, _⟩ := hu.stack.form
  obtain ⟨a2, c2, rfl, _⟩ := hu.queue.form
  obtain ⟨a3, c3, rfl, _⟩ := hu.set.form
  obtain ⟨a4, c4, rfl, _⟩ := hu.table.form
  have hD0 := key_pre hu
  have hin3 := hin.set
  have hin4 := hin.table
  have hA := hu.at
  have CS := fun w' (hB : Below W.heap.size W w') => set_any (hA.below hB).set (by omega) arg
  have CT := fun w' (hB : Below W.heap.size W w') => table_any (hA.below hB).table (by omega) arg
  obtain ⟨k0, k1, k2, k3, k4, -⟩ := ctO_cells hD0.box
  have B0 := hD0.bel
  clear hA hin
  unfold ctO ansO at B0 k0 k1 k2 k3 k4
  obtain ⟨bi, hbi⟩ : ∃ b, b = inB x.set arg := ⟨_, rfl⟩
  obtain ⟨bt, hbt⟩ : ∃ b, b = inB (x.table.map Prod.fst) arg := ⟨_, rfl⟩
  obtain ⟨pi, hpi⟩ : ∃ b, b = plc x.set arg := ⟨_, rfl⟩
  obtain ⟨pt, hpt⟩ : ∃ b, b = plc (x.table.map Prod.fst) arg := ⟨_, rfl⟩
  simp only [← hbi, ← hbt, ← hpi, ← hpt] at CS CT
  have hbq : bi = false := hbi.trans hi.out
  subst hbq
  replace hbi := Mr.hid hbi
  replace hbt := Mr.hid hbt
  replace hpi := Mr.hid hpi
  replace hpt := Mr.hid hpt
  replace hD0 := Mr.hid hD0
  replace CS := Mr.hid CS
  replace CT := Mr.hid CT
  replace B0 := Mr.hid B0
  replace hu := Mr.hid hu
  go_enter Try.func45, Try.ntmps45
  go_upto_region 3 with (first | (go_at_call 46; refine (CS.out _ B0.out).mono ?_; clear CS; rintro e w1 ⟨rfl, hB1⟩; have hD1 := hD0.out.below hB1; clear hD0 hB1; obtain ⟨k0, k1, k2, k3, k4, hl1⟩ := ctO_cells hD1.box; have B1 := hD1.bel; replace hD1 := Mr.hid hD1; replace B1 := Mr.hid B1) | (go_at_call 47; refine (CT.out _ B1.out).mono ?_; clear CT; rintro e w2 ⟨rfl, hB2⟩; have hD2 := hD1.out.below hB2; clear hD1 hB2 k0 k1 k2 k3 k4; obtain ⟨k0, k1, k2, k3, k4, hl2⟩ := ctO_cells hD2.box; have B2 := hD2.bel; replace hD2 := Mr.hid hD2; replace B2 := Mr.hid B2))
  rw [show W.heap.size + 1 + 1 = W.heap.size + 2 from rfl]
  go_upto_region 12 with (fail)
  have hD3 := hD2.out
  clear hD2 B2 k0 k1 k2 k3 k4 hl2
  obtain ⟨k0, k1, k2, k3, k4, hlt⟩ := ctO_cells hD3.box
  replace hD3 := Mr.hid hD3
  go_region_held3 (fun w' => w'.cell? ⟨W.heap.size, 0, none⟩ = some (.slice a0 x.cell.length c0) ∧ w'.cell? ⟨W.heap.size, 1, none⟩ = some (.slice a1 x.stack.length c1) ∧ w'.cell? ⟨W.heap.size, 2, none⟩ = some (.slice a2 x.queue.length c2) ∧ w'.cell? ⟨W.heap.size, 3, none⟩ = some (.slice a3 x.set.length c3) ∧ w'.cell? ⟨W.heap.size, 4, none⟩ = some (.slice a4 x.table.length c4)) (first | with_reducible exact K5.out | with_reducible exact K7.out | go_keep) (first | (go_at_call 48; refine (yes_any false _).mono ?_; rintro e w4 ⟨rfl, hB4⟩; have hD4 := hD3.out.drew.below hB4; clear hB4; unfold ans; obtain ⟨K5, K7⟩ := hD4.held 6 0; unfold set7 set5 at K7; unfold set5 at K5; replace K5 := Mr.hid K5; replace K7 := Mr.hid K7; obtain ⟨k0, k1, k2, k3, k4, hlt⟩ := ctO_cells hD4.box; obtain ⟨r0, r1, r2, r3, r4, hr⟩ := ctO_cells hD4.res; obtain ⟨f0, f1, f2, f3, f4⟩ := ctO_thaw hD4.res; obtain ⟨s0, s1, hs, s2, s3⟩ := ansO_cells hD4.ans; replace hD4 := Mr.hid hD4))
  obtain ⟨e1, e2, e3, e4⟩ := hD4.out.ends 6 0
  obtain ⟨d0, d1, d2, d3, d4, -⟩ := ctO_cells e3
  obtain ⟨g0, g1, -, -, -⟩ := ansO_cells e4
  unfold set7 set5 at e1 e2 d0 d1 d2 d3 d4 g0 g1
  replace e1 := Mr.hid e1
  replace e2 := Mr.hid e2
  clear e3 e4 hD4 K5 K7 k0 k1 k2 k3 k4 r0 r1 r2 r3 r4 f0 f1 f2 f3 f4 s0 s1 s2 s3
  go_wp2
  refine bodyPost_ret (v := .tuple #[.agg #[.slice a0 x.cell.length c0, .slice a1 x.stack.length c1, .slice a2 x.queue.length c2, .slice a3 x.set.length c3, .slice a4 x.table.length c4], .agg #[.int .i64 6, .int .i64 0]]) (by simp [results, Try.results45, go_sem, d0, d1, d2, d3, d4, g0, g1]) rfl ?_
  exact ⟨_, _, _, _, _, by rw [dan_51 x arg, hi.out]; rfl, by rw [dnx_51 x arg data, hi.out]; exact e1.out, e2.out⟩
set_option maxRecDepth 100000 in
set_option maxHeartbeats 8000000 in
theorem key_60y {W : World} {S : Nat → Prop} {u0 u1 u2 u3 u4 : Value} {x : Ct} (hu : CtHas W S u0 u1 u2 u3 u4 x) (hin : CtIn 225000000000000 x) (arg data : Int) (hi : Hid (inB (keysOf x.table) arg = true)) :
    Calls Try.prog 45 #[.agg #[u0, u1, u2, u3, u4], .int .i64 60, .int .i64 arg, .int .i64 data] W fun e w' => ∃ v0 v1 v2 v3 v4, e = .returned (.tuple #[.agg #[v0, v1, v2, v3, v4], ans (dan x 60 arg).1 (dan x 60 arg).2]) ∧ CtAt w' (Tk S W.heap.size) v0 v1 v2 v3 v4 (dnx x 60 arg data) ∧ Below W.heap.size W w' := by
  obtain ⟨a0, c0, rfl, _⟩ := hu.cell.form
  obtain ⟨a1, c1, rfl, _⟩ := hu.stack.form
  obtain ⟨a2, c2, rfl, _⟩ := hu.queue.form
  obtain ⟨a3, c3, rfl, _⟩ := hu.set.form
  obtain ⟨a4, c4, rfl, _⟩ := hu.table.form
  have hD0 := key_pre hu
  have hin3 := hin.set
  have hin4 := hin.table
  have hA := hu.at
  have CS := fun w' (hB : Below W.heap.size W w') => set_any (hA.below hB).set (by omega) arg
  have CT := fun w' (hB : Below W.heap.size W w') => table_any (hA.below hB).table (by omega) arg
  obtain ⟨k0, k1, k2, k3, k4, -⟩ := ctO_cells hD0.box
  have B0 := hD0.bel
  clear hA hin
  unfold ctO ansO at B0 k0 k1 k2 k3 k4
  obtain ⟨bi, hbi⟩ : ∃ b, b = inB x.set arg := ⟨_, rfl⟩
  obtain ⟨bt, hbt⟩ : ∃ b, b = inB (x.table.map Prod.fst) arg := ⟨_, rfl⟩
  obtain ⟨pi, hpi⟩ : ∃ b, b = plc x.set arg := ⟨_, rfl⟩
  obtain ⟨pt, hpt⟩ : ∃ b, b = plc (x.table.map Prod.fst) arg := ⟨_, rfl⟩
  simp only [← hbi, ← hbt, ← hpi, ← hpt] at CS CT
  have hbq : bt = true := hbt.trans hi.out
  subst hbq
  replace hbi := Mr.hid hbi
  replace hbt := Mr.hid hbt
  replace hpi := Mr.hid hpi
  replace hpt := Mr.hid hpt
  replace hD0 := Mr.hid hD0
  replace CS := Mr.hid CS
  replace CT := Mr.hid CT
  replace B0 := Mr.hid B0
  replace hu := Mr.hid hu
  go_enter Try.func45, Try.ntmps45
  go_upto_region 3 with (first | (go_at_call 46; refine (CS.out _ B0.out).mono ?_; clear CS; rintro e w1 ⟨rfl, hB1⟩; have hD1 := hD0.out.below hB1; clear hD0 hB1; obtain ⟨k0, k1, k2, k3, k4, hl1⟩ := ctO_cells hD1.box; have B1 := hD1.bel; replace hD1 := Mr.hid hD1; replace B1 := Mr.hid B1) | (go_at_call 47; refine (CT.out _ B1.out).mono ?_; clear CT; rintro e w2 ⟨rfl, hB2⟩; have hD2 := hD1.out.below hB2; clear hD1 hB2 k0 k1 k2 k3 k4; obtain ⟨k0, k1, k2, k3, k4, hl2⟩ := ctO_cells hD2.box; have B2 := hD2.bel; replace hD2 := Mr.hid hD2; replace B2 := Mr.hid B2))
  rw [show W.heap.size + 1 + 1 = W.heap.size + 2 from rfl]
  go_upto_region 19 with (fail)
  have hD3 := hD2.out
  clear hD2 B2 k0 k1 k2 k3 k4 hl2
  obtain ⟨k0, k1, k2, k3, k4, hlt⟩ := ctO_cells hD3.box
  replace hD3 := Mr.hid hD3
  go_region_held3 (fun w' => w'.cell? ⟨W.heap.size, 0, none⟩ = some (.slice a0 x.cell.length c0) ∧ w'.cell? ⟨W.heap.size, 1, none⟩ = some (.slice a1 x.stack.length c1) ∧ w'.cell? ⟨W.heap.size, 2, none⟩ = some (.slice a2 x.queue.length c2) ∧ w'.cell? ⟨W.heap.size, 3, none⟩ = some (.slice a3 x.set.length c3) ∧ w'.cell? ⟨W.heap.size, 4, none⟩ = some (.slice a4 x.table.length c4)) (first | with_reducible exact K5.out | with_reducible exact K7.out | go_keep) (first | (go_at_call 48; refine (yes_any false _).mono ?_; rintro e w4 ⟨rfl, hB4⟩; have hD4 := hD3.out.drew.below hB4; clear hB4; unfold ans; obtain ⟨K5, K7⟩ := hD4.held 6 0; unfold set7 set5 at K7; unfold set5 at K5; replace K5 := Mr.hid K5; replace K7 := Mr.hid K7; obtain ⟨k0, k1, k2, k3, k4, hlt⟩ := ctO_cells hD4.box; obtain ⟨r0, r1, r2, r3, r4, hr⟩ := ctO_cells hD4.res; obtain ⟨f0, f1, f2, f3, f4⟩ := ctO_thaw hD4.res; obtain ⟨s0, s1, hs, s2, s3⟩ := ansO_cells hD4.ans; replace hD4 := Mr.hid hD4))
  obtain ⟨e1, e2, e3, e4⟩ := hD4.out.ends 6 0
  obtain ⟨d0, d1, d2, d3, d4, -⟩ := ctO_cells e3
  obtain ⟨g0, g1, -, -, -⟩ := ansO_cells e4
  unfold set7 set5 at e1 e2 d0 d1 d2 d3 d4 g0 g1
  replace e1 := Mr.hid e1
  replace e2 := Mr.hid e2
  clear e3 e4 hD4 K5 K7 k0 k1 k2 k3 k4 r0 r1 r2 r3 r4 f0 f1 f2 f3 f4 s0 s1 s2 s3
  go_wp2
  refine bodyPost_ret (v := .tuple #[.agg #[.slice a0 x.cell.length c0, .slice a1 x.stack.length c1, .slice a2 x.queue.length c2, .slice a3 x.set.length c3, .slice a4 x.table.length c4], .agg #[.int .i64 6, .int .i64 0]]) (by simp [results, Try.results45, go_sem, d0, d1, d2, d3, d4, g0, g1]) rfl ?_
  exact ⟨_, _, _, _, _, by rw [dan_60 x arg, hi.out]; rfl, by rw [dnx_60 x arg data, hi.out]; exact e1.out, e2.out⟩
set_option maxRecDepth 100000 in
set_option maxHeartbeats 8000000 in
theorem key_61n {W : World} {S : Nat → Prop} {u0 u1 u2 u3 u4 : Value} {x : Ct} (hu : CtHas W S u0 u1 u2 u3 u4 x) (hin : CtIn 225000000000000 x) (arg data : Int) (hi : Hid (inB (keysOf x.table) arg = false)) :
    Calls Try.prog 45 #[.agg #[u0, u1, u2, u3, u4], .int .i64 61, .int .i64 arg, .int .i64 data] W fun e w' => ∃ v0 v1 v2 v3 v4, e = .returned (.tuple #[.agg #[v0, v1, v2, v3, v4], ans (dan x 61 arg).1 (dan x 61 arg).2]) ∧ CtAt w' (Tk S W.heap.size) v0 v1 v2 v3 v4 (dnx x 61 arg data) ∧ Below W.heap.size W w' := by
  obtain ⟨a0, c0, rfl, _⟩ := hu.cell.form
  obtain ⟨a1, c1, rfl, _⟩ := hu.stack.form
  obtain ⟨a2, c2, rfl, _⟩ := hu.queue.form
  obtain ⟨a3, c3, rfl, _⟩ := hu.set.form
  obtain ⟨a4, c4, rfl, _⟩ := hu.table.form
  have hD0 := key_pre hu
  have hin3 := hin.set
  have hin4 := hin.table
  have hA := hu.at
  have CS := fun w' (hB : Below W.heap.size W w') => set_any (hA.below hB).set (by omega) arg
  have CT := fun w' (hB : Below W.heap.size W w') => table_any (hA.below hB).table (by omega) arg
  obtain ⟨k0, k1, k2, k3, k4, -⟩ := ctO_cells hD0.box
  have B0 := hD0.bel
  clear hA hin
  unfold ctO ansO at B0 k0 k1 k2 k3 k4
  obtain ⟨bi, hbi⟩ : ∃ b, b = inB x.set arg := ⟨_, rfl⟩
  obtain ⟨bt, hbt⟩ : ∃ b, b = inB (x.table.map Prod.fst) arg := ⟨_, rfl⟩
  obtain ⟨pi, hpi⟩ : ∃ b, b = plc x.set arg := ⟨_, rfl⟩
  obtain ⟨pt, hpt⟩ : ∃ b, b = plc (x.table.map Prod.fst) arg := ⟨_, rfl⟩
  simp only [← hbi, ← hbt, ← hpi, ← hpt] at CS CT
  have hbq : bt = false := hbt.trans hi.out
  subst hbq
  replace hbi := Mr.hid hbi
  replace hbt := Mr.hid hbt
  replace hpi := Mr.hid hpi
  replace hpt := Mr.hid hpt
  replace hD0 := Mr.hid hD0
  replace CS := Mr.hid CS
  replace CT := Mr.hid CT
  replace B0 := Mr.hid B0
  replace hu := Mr.hid hu
  go_enter Try.func45, Try.ntmps45
  go_upto_region 3 with (first | (go_at_call 46; refine (CS.out _ B0.out).mono ?_; clear CS; rintro e w1 ⟨rfl, hB1⟩; have hD1 := hD0.out.below hB1; clear hD0 hB1; obtain ⟨k0, k1, k2, k3, k4, hl1⟩ := ctO_cells hD1.box; have B1 := hD1.bel; replace hD1 := Mr.hid hD1; replace B1 := Mr.hid B1) | (go_at_call 47; refine (CT.out _ B1.out).mono ?_; clear CT; rintro e w2 ⟨rfl, hB2⟩; have hD2 := hD1.out.below hB2; clear hD1 hB2 k0 k1 k2 k3 k4; obtain ⟨k0, k1, k2, k3, k4, hl2⟩ := ctO_cells hD2.box; have B2 := hD2.bel; replace hD2 := Mr.hid hD2; replace B2 := Mr.hid B2))
  rw [show W.heap.size + 1 + 1 = W.heap.size + 2 from rfl]
  go_upto_region 21 with (fail)
  have hD3 := hD2.out
  clear hD2 B2 k0 k1 k2 k3 k4 hl2
  obtain ⟨k0, k1, k2, k3, k4, hlt⟩ := ctO_cells hD3.box
  replace hD3 := Mr.hid hD3
  go_region_held3 (fun w' => w'.cell? ⟨W.heap.size, 0, none⟩ = some (.slice a0 x.cell.length c0) ∧ w'.cell? ⟨W.heap.size, 1, none⟩ = some (.slice a1 x.stack.length c1) ∧ w'.cell? ⟨W.heap.size, 2, none⟩ = some (.slice a2 x.queue.length c2) ∧ w'.cell? ⟨W.heap.size, 3, none⟩ = some (.slice a3 x.set.length c3) ∧ w'.cell? ⟨W.heap.size, 4, none⟩ = some (.slice a4 x.table.length c4)) (first | with_reducible exact K5.out | with_reducible exact K7.out | go_keep) (first | (go_at_call 43; refine (kind_any 6 _).mono ?_; rintro e w4 ⟨rfl, hB4⟩; have hD4 := hD3.out.drew.below hB4; clear hB4; unfold ans; obtain ⟨K5, K7⟩ := hD4.held 6 0; unfold set7 set5 at K7; unfold set5 at K5; replace K5 := Mr.hid K5; replace K7 := Mr.hid K7; obtain ⟨k0, k1, k2, k3, k4, hlt⟩ := ctO_cells hD4.box; obtain ⟨r0, r1, r2, r3, r4, hr⟩ := ctO_cells hD4.res; obtain ⟨f0, f1, f2, f3, f4⟩ := ctO_thaw hD4.res; obtain ⟨s0, s1, hs, s2, s3⟩ := ansO_cells hD4.ans; replace hD4 := Mr.hid hD4))
  obtain ⟨e1, e2, e3, e4⟩ := hD4.out.ends 6 0
  obtain ⟨d0, d1, d2, d3, d4, -⟩ := ctO_cells e3
  obtain ⟨g0, g1, -, -, -⟩ := ansO_cells e4
  unfold set7 set5 at e1 e2 d0 d1 d2 d3 d4 g0 g1
  replace e1 := Mr.hid e1
  replace e2 := Mr.hid e2
  clear e3 e4 hD4 K5 K7 k0 k1 k2 k3 k4 r0 r1 r2 r3 r4 f0 f1 f2 f3 f4 s0 s1 s2 s3
  go_wp2
  refine bodyPost_ret (v := .tuple #[.agg #[.slice a0 x.cell.length c0, .slice a1 x.stack.length c1, .slice a2 x.queue.length c2, .slice a3 x.set.length c3, .slice a4 x.table.length c4], .agg #[.int .i64 6, .int .i64 0]]) (by simp [results, Try.results45, go_sem, d0, d1, d2, d3, d4, g0, g1]) rfl ?_
  exact ⟨_, _, _, _, _, by rw [dan_61 x arg, getT_n hi.out]; rfl, by rw [dnx_61 x arg data, hi.out]; exact e1.out, e2.out⟩
set_option maxRecDepth 100000 in
set_option maxHeartbeats 8000000 in
theorem key_62n {W : World} {S : Nat → Prop} {u0 u1 u2 u3 u4 : Value} {x : Ct} (hu : CtHas W S u0 u1 u2 u3 u4 x) (hin : CtIn 225000000000000 x) (arg data : Int) (hi : Hid (inB (keysOf x.table) arg = false)) :
    Calls Try.prog 45 #[.agg #[u0, u1, u2, u3, u4], .int .i64 62, .int .i64 arg, .int .i64 data] W fun e w' => ∃ v0 v1 v2 v3 v4, e = .returned (.tuple #[.agg #[v0, v1, v2, v3, v4], ans (dan x 62 arg).1 (dan x 62 arg).2]) ∧ CtAt w' (Tk S W.heap.size) v0 v1 v2 v3 v4 (dnx x 62 arg data) ∧ Below W.heap.size W w' := by
  obtain ⟨a0, c0, rfl, _⟩ := hu.cell.form
  obtain ⟨a1, c1, rfl, _⟩ := hu.stack.form
  obtain ⟨a2, c2, rfl, _⟩ := hu.queue.form
  obtain ⟨a3, c3, rfl, _⟩ := hu.set.form
  obtain ⟨a4, c4, rfl, _⟩ := hu.table.form
  have hD0 := key_pre hu
  have hin3 := hin.set
  have hin4 := hin.table
  have hA := hu.at
  have CS := fun w' (hB : Below W.heap.size W w') => set_any (hA.below hB).set (by omega) arg
  have CT := fun w' (hB : Below W.heap.size W w') => table_any (hA.below hB).table (by omega) arg
  obtain ⟨k0, k1, k2, k3, k4, -⟩ := ctO_cells hD0.box
  have B0 := hD0.bel
  clear hA hin
  unfold ctO ansO at B0 k0 k1 k2 k3 k4
  obtain ⟨bi, hbi⟩ : ∃ b, b = inB x.set arg := ⟨_, rfl⟩
  obtain ⟨bt, hbt⟩ : ∃ b, b = inB (x.table.map Prod.fst) arg := ⟨_, rfl⟩
  obtain ⟨pi, hpi⟩ : ∃ b, b = plc x.set arg := ⟨_, rfl⟩
  obtain ⟨pt, hpt⟩ : ∃ b, b = plc (x.table.map Prod.fst) arg := ⟨_, rfl⟩
  simp only [← hbi, ← hbt, ← hpi, ← hpt] at CS CT
  have hbq : bt = false := hbt.trans hi.out
  subst hbq
  replace hbi := Mr.hid hbi
  replace hbt := Mr.hid hbt
  replace hpi := Mr.hid hpi
  replace hpt := Mr.hid hpt
  replace hD0 := Mr.hid hD0
  replace CS := Mr.hid CS
  replace CT := Mr.hid CT
  replace B0 := Mr.hid B0
  replace hu := Mr.hid hu
  go_enter Try.func45, Try.ntmps45
  go_upto_region 3 with (first | (go_at_call 46; refine (CS.out _ B0.out).mono ?_; clear CS; rintro e w1 ⟨rfl, hB1⟩; have hD1 := hD0.out.below hB1; clear hD0 hB1; obtain ⟨k0, k1, k2, k3, k4, hl1⟩ := ctO_cells hD1.box; have B1 := hD1.bel; replace hD1 := Mr.hid hD1; replace B1 := Mr.hid B1) | (go_at_call 47; refine (CT.out _ B1.out).mono ?_; clear CT; rintro e w2 ⟨rfl, hB2⟩; have hD2 := hD1.out.below hB2; clear hD1 hB2 k0 k1 k2 k3 k4; obtain ⟨k0, k1, k2, k3, k4, hl2⟩ := ctO_cells hD2.box; have B2 := hD2.bel; replace hD2 := Mr.hid hD2; replace B2 := Mr.hid B2))
  rw [show W.heap.size + 1 + 1 = W.heap.size + 2 from rfl]
  go_upto_region 21 with (fail)
  have hD3 := hD2.out
  clear hD2 B2 k0 k1 k2 k3 k4 hl2
  obtain ⟨k0, k1, k2, k3, k4, hlt⟩ := ctO_cells hD3.box
  replace hD3 := Mr.hid hD3
  go_region_held3 (fun w' => w'.cell? ⟨W.heap.size, 0, none⟩ = some (.slice a0 x.cell.length c0) ∧ w'.cell? ⟨W.heap.size, 1, none⟩ = some (.slice a1 x.stack.length c1) ∧ w'.cell? ⟨W.heap.size, 2, none⟩ = some (.slice a2 x.queue.length c2) ∧ w'.cell? ⟨W.heap.size, 3, none⟩ = some (.slice a3 x.set.length c3) ∧ w'.cell? ⟨W.heap.size, 4, none⟩ = some (.slice a4 x.table.length c4)) (first | with_reducible exact K5.out | with_reducible exact K7.out | go_keep) (first | (go_at_call 43; refine (kind_any 6 _).mono ?_; rintro e w4 ⟨rfl, hB4⟩; have hD4 := hD3.out.drew.below hB4; clear hB4; unfold ans; obtain ⟨K5, K7⟩ := hD4.held 6 0; unfold set7 set5 at K7; unfold set5 at K5; replace K5 := Mr.hid K5; replace K7 := Mr.hid K7; obtain ⟨k0, k1, k2, k3, k4, hlt⟩ := ctO_cells hD4.box; obtain ⟨r0, r1, r2, r3, r4, hr⟩ := ctO_cells hD4.res; obtain ⟨f0, f1, f2, f3, f4⟩ := ctO_thaw hD4.res; obtain ⟨s0, s1, hs, s2, s3⟩ := ansO_cells hD4.ans; replace hD4 := Mr.hid hD4))
  obtain ⟨e1, e2, e3, e4⟩ := hD4.out.ends 6 0
  obtain ⟨d0, d1, d2, d3, d4, -⟩ := ctO_cells e3
  obtain ⟨g0, g1, -, -, -⟩ := ansO_cells e4
  unfold set7 set5 at e1 e2 d0 d1 d2 d3 d4 g0 g1
  replace e1 := Mr.hid e1
  replace e2 := Mr.hid e2
  clear e3 e4 hD4 K5 K7 k0 k1 k2 k3 k4 r0 r1 r2 r3 r4 f0 f1 f2 f3 f4 s0 s1 s2 s3
  go_wp2
  refine bodyPost_ret (v := .tuple #[.agg #[.slice a0 x.cell.length c0, .slice a1 x.stack.length c1, .slice a2 x.queue.length c2, .slice a3 x.set.length c3, .slice a4 x.table.length c4], .agg #[.int .i64 6, .int .i64 0]]) (by simp [results, Try.results45, go_sem, d0, d1, d2, d3, d4, g0, g1]) rfl ?_
  exact ⟨_, _, _, _, _, by rw [dan_62 x arg, getT_n hi.out]; rfl, e1.out, e2.out⟩
set_option maxRecDepth 100000 in
set_option maxHeartbeats 8000000 in
theorem key_62y {W : World} {S : Nat → Prop} {u0 u1 u2 u3 u4 : Value} {x : Ct} (hu : CtHas W S u0 u1 u2 u3 u4 x) (hin : CtIn 225000000000000 x) (arg data : Int) (hi : Hid (inB (keysOf x.table) arg = true)) :
    Calls Try.prog 45 #[.agg #[u0, u1, u2, u3, u4], .int .i64 62, .int .i64 arg, .int .i64 data] W fun e w' => ∃ v0 v1 v2 v3 v4, e = .returned (.tuple #[.agg #[v0, v1, v2, v3, v4], ans (dan x 62 arg).1 (dan x 62 arg).2]) ∧ CtAt w' (Tk S W.heap.size) v0 v1 v2 v3 v4 (dnx x 62 arg data) ∧ Below W.heap.size W w' := by
  obtain ⟨a0, c0, rfl, _⟩ := hu.cell.form
  obtain ⟨a1, c1, rfl, _⟩ := hu.stack.form
  obtain ⟨a2, c2, rfl, _⟩ := hu.queue.form
  obtain ⟨a3, c3, rfl, _⟩ := hu.set.form
  obtain ⟨a4, c4, rfl, _⟩ := hu.table.form
  have hD0 := key_pre hu
  have hin3 := hin.set
  have hin4 := hin.table
  have hA := hu.at
  have CS := fun w' (hB : Below W.heap.size W w') => set_any (hA.below hB).set (by omega) arg
  have CT := fun w' (hB : Below W.heap.size W w') => table_any (hA.below hB).table (by omega) arg
  obtain ⟨k0, k1, k2, k3, k4, -⟩ := ctO_cells hD0.box
  have B0 := hD0.bel
  clear hA hin
  unfold ctO ansO at B0 k0 k1 k2 k3 k4
  obtain ⟨bi, hbi⟩ : ∃ b, b = inB x.set arg := ⟨_, rfl⟩
  obtain ⟨bt, hbt⟩ : ∃ b, b = inB (x.table.map Prod.fst) arg := ⟨_, rfl⟩
  obtain ⟨pi, hpi⟩ : ∃ b, b = plc x.set arg := ⟨_, rfl⟩
  obtain ⟨pt, hpt⟩ : ∃ b, b = plc (x.table.map Prod.fst) arg := ⟨_, rfl⟩
  simp only [← hbi, ← hbt, ← hpi, ← hpt] at CS CT
  have hbq : bt = true := hbt.trans hi.out
  subst hbq
  replace hbi := Mr.hid hbi
  replace hbt := Mr.hid hbt
  replace hpi := Mr.hid hpi
  replace hpt := Mr.hid hpt
  replace hD0 := Mr.hid hD0
  replace CS := Mr.hid CS
  replace CT := Mr.hid CT
  replace B0 := Mr.hid B0
  replace hu := Mr.hid hu
  go_enter Try.func45, Try.ntmps45
  go_upto_region 3 with (first | (go_at_call 46; refine (CS.out _ B0.out).mono ?_; clear CS; rintro e w1 ⟨rfl, hB1⟩; have hD1 := hD0.out.below hB1; clear hD0 hB1; obtain ⟨k0, k1, k2, k3, k4, hl1⟩ := ctO_cells hD1.box; have B1 := hD1.bel; replace hD1 := Mr.hid hD1; replace B1 := Mr.hid B1) | (go_at_call 47; refine (CT.out _ B1.out).mono ?_; clear CT; rintro e w2 ⟨rfl, hB2⟩; have hD2 := hD1.out.below hB2; clear hD1 hB2 k0 k1 k2 k3 k4; obtain ⟨k0, k1, k2, k3, k4, hl2⟩ := ctO_cells hD2.box; have B2 := hD2.bel; replace hD2 := Mr.hid hD2; replace B2 := Mr.hid B2))
  rw [show W.heap.size + 1 + 1 = W.heap.size + 2 from rfl]
  have hlp : pt < x.table.length := by have := inB_lt hi.out; rw [hpt.out]; simpa [keysOf] using this
  obtain ⟨g, cp, hpv, hSg, hlg, hcl, -⟩ := hu.out.table.there (by omega)
  cases hpv
  have hu2 := hu.out.table.below B2.out
  have kv := hu2.cells (g := g) rfl _ _ (prs_get x.table pt hlp).2
  obtain ⟨v, hv⟩ : ∃ v, v = (x.table[pt]?.getD (0, 0)).2 := ⟨_, rfl⟩
  rw [← hv] at kv
  replace hv := Mr.hid hv
  replace hu2 := Mr.hid hu2
  have hlg2 : g < w2.heap.size := by have := B2.out.size; omega
  have hlI : (pt : Int) < (x.table.length : Int) := by omega
  go_upto_region 25 with (fail)
  have hD3 := hD2.out
  clear hD2 B2 k0 k1 k2 k3 k4 hl2 kv hlg2 hu2
  obtain ⟨k0, k1, k2, k3, k4, hlt⟩ := ctO_cells hD3.box
  replace hD3 := Mr.hid hD3
  go_region_held3 (fun w' => w'.cell? ⟨W.heap.size, 0, none⟩ = some (.slice a0 x.cell.length c0) ∧ w'.cell? ⟨W.heap.size, 1, none⟩ = some (.slice a1 x.stack.length c1) ∧ w'.cell? ⟨W.heap.size, 2, none⟩ = some (.slice a2 x.queue.length c2) ∧ w'.cell? ⟨W.heap.size, 3, none⟩ = some (.slice a3 x.set.length c3) ∧ w'.cell? ⟨W.heap.size, 4, none⟩ = some (.slice (some ⟨g, 0, none⟩) x.table.length c4)) (first | with_reducible exact K5.out | with_reducible exact K7.out | go_keep) (first | (go_at_call 44; refine (value_any v _).mono ?_; rintro e w4 ⟨rfl, hB4⟩; have hD4 := hD3.out.drew.below hB4; clear hB4; unfold ans; obtain ⟨K5, K7⟩ := hD4.held 2 v; unfold set7 set5 at K7; unfold set5 at K5; replace K5 := Mr.hid K5; replace K7 := Mr.hid K7; obtain ⟨k0, k1, k2, k3, k4, hlt⟩ := ctO_cells hD4.box; obtain ⟨r0, r1, r2, r3, r4, hr⟩ := ctO_cells hD4.res; obtain ⟨f0, f1, f2, f3, f4⟩ := ctO_thaw hD4.res; obtain ⟨s0, s1, hs, s2, s3⟩ := ansO_cells hD4.ans; replace hD4 := Mr.hid hD4))
  obtain ⟨e1, e2, e3, e4⟩ := hD4.out.ends 2 v
  obtain ⟨d0, d1, d2, d3, d4, -⟩ := ctO_cells e3
  obtain ⟨g0, g1, -, -, -⟩ := ansO_cells e4
  unfold set7 set5 at e1 e2 d0 d1 d2 d3 d4 g0 g1
  replace e1 := Mr.hid e1
  replace e2 := Mr.hid e2
  clear e3 e4 hD4 K5 K7 k0 k1 k2 k3 k4 r0 r1 r2 r3 r4 f0 f1 f2 f3 f4 s0 s1 s2 s3
  go_wp2
  refine bodyPost_ret (v := .tuple #[.agg #[.slice a0 x.cell.length c0, .slice a1 x.stack.length c1, .slice a2 x.queue.length c2, .slice a3 x.set.length c3, .slice (some ⟨g, 0, none⟩) x.table.length c4], .agg #[.int .i64 2, .int .i64 v]]) (by simp [results, Try.results45, go_sem, d0, d1, d2, d3, d4, g0, g1]) rfl ?_
  exact ⟨_, _, _, _, _, by rw [dan_62 x arg, getT_y hi.out, hv.out, hpt.out]; rfl, e1.out, e2.out⟩
set_option maxRecDepth 100000 in
set_option maxHeartbeats 8000000 in
theorem key_50n {W : World} {S : Nat → Prop} {u0 u1 u2 u3 u4 : Value} {x : Ct} (hu : CtHas W S u0 u1 u2 u3 u4 x) (hin : CtIn 225000000000000 x) (arg data : Int) (hi : Hid (inB x.set arg = false)) :
    Calls Try.prog 45 #[.agg #[u0, u1, u2, u3, u4], .int .i64 50, .int .i64 arg, .int .i64 data] W fun e w' => ∃ v0 v1 v2 v3 v4, e = .returned (.tuple #[.agg #[v0, v1, v2, v3, v4], ans (dan x 50 arg).1 (dan x 50 arg).2]) ∧ CtAt w' (Tk S W.heap.size) v0 v1 v2 v3 v4 (dnx x 50 arg data) ∧ Below W.heap.size W w' := by
  obtain ⟨a0, c0, rfl, _⟩ := hu.cell.form
  obtain ⟨a1, c1, rfl, _⟩ := hu.stack.form
  obtain ⟨a2, c2, rfl, _⟩ := hu.queue.form
  obtain ⟨a3, c3, rfl, _⟩ := hu.set.form
  obtain ⟨a4, c4, rfl, _⟩ := hu.table.form
  have hD0 := key_pre hu
  have hin3 := hin.set
  have hin4 := hin.table
  have hA := hu.at
  have CS := fun w' (hB : Below W.heap.size W w') => set_any (hA.below hB).set (by omega) arg
  have CT := fun w' (hB : Below W.heap.size W w') => table_any (hA.below hB).table (by omega) arg
  obtain ⟨k0, k1, k2, k3, k4, -⟩ := ctO_cells hD0.box
  have B0 := hD0.bel
  clear hA hin
  unfold ctO ansO at B0 k0 k1 k2 k3 k4
  obtain ⟨bi, hbi⟩ : ∃ b, b = inB x.set arg := ⟨_, rfl⟩
  obtain ⟨bt, hbt⟩ : ∃ b, b = inB (x.table.map Prod.fst) arg := ⟨_, rfl⟩
  obtain ⟨pi, hpi⟩ : ∃ b, b = plc x.set arg := ⟨_, rfl⟩
  obtain ⟨pt, hpt⟩ : ∃ b, b = plc (x.table.map Prod.fst) arg := ⟨_, rfl⟩
  simp only [← hbi, ← hbt, ← hpi, ← hpt] at CS CT
  have hbq : bi = false := hbi.trans hi.out
  subst hbq
  replace hbi := Mr.hid hbi
  replace hbt := Mr.hid hbt
  replace hpi := Mr.hid hpi
  replace hpt := Mr.hid hpt
  replace hD0 := Mr.hid hD0
  replace CS := Mr.hid CS
  replace CT := Mr.hid CT
  replace B0 := Mr.hid B0
  replace hu := Mr.hid hu
  go_enter Try.func45, Try.ntmps45
  go_upto_region 3 with (first | (go_at_call 46; refine (CS.out _ B0.out).mono ?_; clear CS; rintro e w1 ⟨rfl, hB1⟩; have hD1 := hD0.out.below hB1; clear hD0 hB1; obtain ⟨k0, k1, k2, k3, k4, hl1⟩ := ctO_cells hD1.box; have B1 := hD1.bel; replace hD1 := Mr.hid hD1; replace B1 := Mr.hid B1) | (go_at_call 47; refine (CT.out _ B1.out).mono ?_; clear CT; rintro e w2 ⟨rfl, hB2⟩; have hD2 := hD1.out.below hB2; clear hD1 hB2 k0 k1 k2 k3 k4; obtain ⟨k0, k1, k2, k3, k4, hl2⟩ := ctO_cells hD2.box; have B2 := hD2.bel; replace hD2 := Mr.hid hD2; replace B2 := Mr.hid B2))
  rw [show W.heap.size + 1 + 1 = W.heap.size + 2 from rfl]
  have hlp : pi ≤ x.set.length := by rw [hpi.out]; exact plc_le _ _
  have hlI : (pi : Int) ≤ (x.set.length : Int) := by omega
  have hcI : (x.set.length : Int) ≤ (c3 : Int) := by omega
  have hcJ : (pi : Int) ≤ (c3 : Int) := by omega
  obtain ⟨ii, p1, p2, p3, p4⟩ := info_parts info_i
  have hu2 := hu.out.set.below B2.out
  obtain ⟨na, nb⟩ := has_take hu2 pi hlp
  rw [ints_take] at nb
  have hl2' : W.heap.size + 3 ≤ w2.heap.size := by have := (Array.getElem?_eq_some_iff.1 hD2.out.ans).1; omega
  have eT : (ints (x.set.take pi)).length = pi * 1 := by simp [ints]; omega
  have oT := one_ints (x.set.take pi)
  replace na := Mr.hid na
  replace nb := Mr.hid nb
  replace hu2 := Mr.hid hu2
  replace eT := Mr.hid eT
  replace oT := Mr.hid oT
  go_upto_region 7 with (first | (at_builtin; refine wpList_append_fresh _ rfl (.const (.slice none 0 0)) (.tmp 39) 22 rfl (Tn S W.heap.size) 3 ii _ 1 8 Try.underlying22 p1 p2 p3 p4 rfl rfl a3 pi c3 (ints (x.set.take pi)) rfl eT.out na.out (nb.out _ (Below.refl _ _)) oT.out (by unfold maxLen; omega) (by omega) (tn_new hl2') ?_; intro r6 w6 h6 hg6 hat6; have B6 := (Below.refl w2.heap.size w2).grown hg6 (Nat.le_refl _) (by simp); obtain ⟨p6, q6, rfl, _⟩ := h6.form; replace h6 := Mr.hid h6; replace hat6 := Mr.hid hat6; clear hg6; have hD6 := hD2.out.below B6; obtain ⟨k0, k1, k2, k3, k4, hl6⟩ := ctO_cells hD6.box; obtain ⟨f0, f1, f2, f3, f4⟩ := ctO_thaw hD6.box; replace hD6 := Mr.hid hD6; replace B6 := Mr.hid B6))
  clear na nb eT oT
  have L6 := fun o => (h6.out.below (Below.refl _ _).drew).alloc o
  have G6 := fun (o : Obj) (w7 : World) (hg : (w6.drew.alloc o).grownBy w7 (Value.slice p6 pi q6).ownBlock) => ((B6.out.drew.alloc B6.out.drew.size o).grown hg (by rw [World.size_alloc]; have := B6.out.drew.size; omega) (fun k hk => Nat.le_of_eq (hat6.out k hk).symm) : Below w2.heap.size w2 w7)
  have hl6' : W.heap.size + 3 ≤ w6.heap.size := by have := B6.out.size; omega
  have hT6 : Tn S W.heap.size (w6.heap.size + 1) := tn_new (by omega)
  obtain ⟨da, db⟩ := has_drop hu2.out pi hlp (if c3 = pi then a3 else Option.map (fun x => x.add pi) a3) (by by_cases h : c3 = pi; exact Or.inl (by omega); exact Or.inr (by rw [if_neg h, Nat.mul_one]))
  rw [ints_drop] at db
  have eD : (ints (x.set.drop pi)).length = (x.set.length - pi) * 1 := by simp [ints]
  have oD := one_ints (x.set.drop pi)
  have F9 := fun w9 (B9 : Below w2.heap.size w2 w9) b9 c9 (h9 : Has w9 (Tn S W.heap.size) 3 1 (.slice b9 (pi + 1 + (x.set.length - pi)) c9) (pi + 1 + (x.set.length - pi)) (ints (x.set.take pi) ++ [.int .i64 arg] ++ ints (x.set.drop pi))) => (hD2.out.below B9).put3 (v' := .slice b9 (pi + 1 + (x.set.length - pi)) c9) (l := insL x.set arg) (by have h := Sl.of_has h9; obtain ⟨y1, y2⟩ := ins_eq (k := arg) hpi.out hlp; rw [y2] at h; rw [y1] at h ⊢; exact h)
  replace F9 := Mr.hid F9
  replace da := Mr.hid da
  replace db := Mr.hid db
  replace eD := Mr.hid eD
  replace oD := Mr.hid oD
  replace L6 := Mr.hid L6
  replace G6 := Mr.hid G6
  replace hT6 := Mr.hid hT6
  go_region_law (first | (refine step_append_has _ rfl (.tmp 41) (.tmp 43) 22 rfl (Tn S W.heap.size) 3 ii _ 1 8 Try.underlying22 p1 p2 p3 p4 rfl (.slice p6 pi q6) pi (ints (x.set.take pi)) (by first | rfl | simp [Act.eval]) (L6.out _) ⟨w6.heap.size, 0, none⟩ 1 1 [.int .i64 arg] (by first | rfl | simp [Act.eval]) rfl (news_one w6.drew _ arg rfl) (by simp [Value.oneCell']) (by omega) (by unfold maxLen; omega) (by omega) (by simpa using hT6.out) ?_; intro g7 c7 w7 h7 hg7 hat7; have B7 := G6.out _ w7 hg7; have hD7 := hD2.out.below B7; obtain ⟨k0, k1, k2, k3, k4, hl7⟩ := ctO_cells hD7.box; obtain ⟨f0, f1, f2, f3, f4⟩ := ctO_thaw hD7.box; replace hD7 := Mr.hid hD7; replace B7 := Mr.hid B7; replace h7 := Mr.hid h7; clear hg7; replace hat7 := Mr.hid hat7) | (refine step_append_any _ rfl (.tmp 44) (.tmp 48) 22 rfl (Tn S W.heap.size) 3 ii _ 1 8 Try.underlying22 p1 p2 p3 p4 rfl (.slice (some ⟨g7, 0, none⟩) (pi + 1) c7) (pi + 1) (ints (x.set.take pi) ++ [.int .i64 arg]) (by first | rfl | simp [Act.eval]) h7.out (if c3 = pi then a3 else Option.map (fun x => x.add pi) a3) (x.set.length - pi) (c3 - pi) (ints (x.set.drop pi)) (by first | rfl | simp [Act.eval]) eD.out da.out (db.out _ B7.out) oD.out (by unfold maxLen; omega) (by omega) (tn_new (by have := B7.out.size; omega)) ?_; intro b9 c9 w9 h9 hg9 hat9; have B9 := B7.out.grown hg9 B7.out.size (fun k hk => own_ge hat6.out hat7.out B6.out.size k hk); have hD9 := F9.out w9 B9 b9 c9 h9; have hE9 := hD2.out.below B9; obtain ⟨k0, k1, k2, k3, k4, hl9⟩ := ctO_cells hE9.box; obtain ⟨f0, f1, f2, f3, f4⟩ := ctO_thaw hE9.box; replace hD9 := Mr.hid hD9; clear hg9 hat9 h9 hE9 B9))
  all_goals
    generalize (if c3 = pi then a3 else Option.map (fun x => x.add pi) a3) = ax at *
    go_upto_region 8 with (fail)
    have hD3 := hD9.out
    clear hD9 hD2 hD6 hD7 B6 B7 L6 G6 h6 h7 hat6 hat7 F9 k0 k1 k2 k3 k4 f0 f1 f2 f3 f4 hl9 hT6 da db eD oD hu2 p1 p2 p3 p4
    generalize (pi + 1 + (x.set.length - pi)) = nm at *
    generalize (w9.setCell { block := W.heap.size, off := 3 } (Value.slice b9 nm c9)) = w10 at *
    obtain ⟨k0, k1, k2, k3, k4, hlt⟩ := ctO_cells hD3.box
    replace hD3 := Mr.hid hD3
    go_region_held3 (fun w' => w'.cell? ⟨W.heap.size, 0, none⟩ = some (.slice a0 x.cell.length c0) ∧ w'.cell? ⟨W.heap.size, 1, none⟩ = some (.slice a1 x.stack.length c1) ∧ w'.cell? ⟨W.heap.size, 2, none⟩ = some (.slice a2 x.queue.length c2) ∧ w'.cell? ⟨W.heap.size, 3, none⟩ = some (.slice b9 nm c9) ∧ w'.cell? ⟨W.heap.size, 4, none⟩ = some (.slice a4 x.table.length c4)) (first | with_reducible exact K5.out | with_reducible exact K7.out | go_keep) (first | (go_at_call 48; refine (yes_any true _).mono ?_; rintro e w4 ⟨rfl, hB4⟩; have hD4 := hD3.out.drew.below hB4; clear hB4; unfold ans; obtain ⟨K5, K7⟩ := hD4.held 5 0; unfold set7 set5 at K7; unfold set5 at K5; replace K5 := Mr.hid K5; replace K7 := Mr.hid K7; obtain ⟨k0, k1, k2, k3, k4, hlt⟩ := ctO_cells hD4.box; obtain ⟨r0, r1, r2, r3, r4, hr⟩ := ctO_cells hD4.res; obtain ⟨f0, f1, f2, f3, f4⟩ := ctO_thaw hD4.res; obtain ⟨s0, s1, hs, s2, s3⟩ := ansO_cells hD4.ans; replace hD4 := Mr.hid hD4))
    obtain ⟨e1, e2, e3, e4⟩ := hD4.out.ends 5 0
    obtain ⟨d0, d1, d2, d3, d4, -⟩ := ctO_cells e3
    obtain ⟨g0, g1, -, -, -⟩ := ansO_cells e4
    unfold set7 set5 at e1 e2 d0 d1 d2 d3 d4 g0 g1
    replace e1 := Mr.hid e1
    replace e2 := Mr.hid e2
    clear e3 e4 hD4 K5 K7 k0 k1 k2 k3 k4 r0 r1 r2 r3 r4 f0 f1 f2 f3 f4 s0 s1 s2 s3
    go_wp2
    refine bodyPost_ret (v := .tuple #[.agg #[.slice a0 x.cell.length c0, .slice a1 x.stack.length c1, .slice a2 x.queue.length c2, .slice b9 nm c9, .slice a4 x.table.length c4], .agg #[.int .i64 5, .int .i64 0]]) (by simp [results, Try.results45, go_sem, d0, d1, d2, d3, d4, g0, g1]) rfl ?_
    exact ⟨_, _, _, _, _, by rw [dan_50 x arg, hi.out]; rfl, by rw [dnx_50 x arg data, hi.out]; exact e1.out, e2.out⟩
set_option maxRecDepth 100000 in
set_option maxHeartbeats 8000000 in
theorem key_51y {W : World} {S : Nat → Prop} {u0 u1 u2 u3 u4 : Value} {x : Ct} (hu : CtHas W S u0 u1 u2 u3 u4 x) (hin : CtIn 225000000000000 x) (arg data : Int) (hi : Hid (inB x.set arg = true)) :
    Calls Try.prog 45 #[.agg #[u0, u1, u2, u3, u4], .int .i64 51, .int .i64 arg, .int .i64 data] W fun e w' => ∃ v0 v1 v2 v3 v4, e = .returned (.tuple #[.agg #[v0, v1, v2, v3, v4], ans (dan x 51 arg).1 (dan x 51 arg).2]) ∧ CtAt w' (Tk S W.heap.size) v0 v1 v2 v3 v4 (dnx x 51 arg data) ∧ Below W.heap.size W w' := by
  obtain ⟨a0, c0, rfl, _⟩ := hu.cell.form
  obtain ⟨a1, c1, rfl, _⟩ := hu.stack.form
  obtain ⟨a2, c2, rfl, _⟩ := hu.queue.form
  obtain ⟨a3, c3, rfl, _⟩ := hu.set.form
  obtain ⟨a4, c4, rfl, _⟩ := hu.table.form
  have hD0 := key_pre hu
  have hin3 := hin.set
  have hin4 := hin.table
  have hA := hu.at
  have CS := fun w' (hB : Below W.heap.size W w') => set_any (hA.below hB).set (by omega) arg
  have CT := fun w' (hB : Below W.heap.size W w') => table_any (hA.below hB).table (by omega) arg
  obtain ⟨k0, k1, k2, k3, k4, -⟩ := ctO_cells hD0.box
  have B0 := hD0.bel
  clear hA hin
  unfold ctO ansO at B0 k0 k1 k2 k3 k4
  obtain ⟨bi, hbi⟩ : ∃ b, b = inB x.set arg := ⟨_, rfl⟩
  obtain ⟨bt, hbt⟩ : ∃ b, b = inB (x.table.map Prod.fst) arg := ⟨_, rfl⟩
  obtain ⟨pi, hpi⟩ : ∃ b, b = plc x.set arg := ⟨_, rfl⟩
  obtain ⟨pt, hpt⟩ : ∃ b, b = plc (x.table.map Prod.fst) arg := ⟨_, rfl⟩
  simp only [← hbi, ← hbt, ← hpi, ← hpt] at CS CT
  have hbq : bi = true := hbi.trans hi.out
  subst hbq
  replace hbi := Mr.hid hbi
  replace hbt := Mr.hid hbt
  replace hpi := Mr.hid hpi
  replace hpt := Mr.hid hpt
  replace hD0 := Mr.hid hD0
  replace CS := Mr.hid CS
  replace CT := Mr.hid CT
  replace B0 := Mr.hid B0
  replace hu := Mr.hid hu
  go_enter Try.func45, Try.ntmps45
  go_upto_region 3 with (first | (go_at_call 46; refine (CS.out _ B0.out).mono ?_; clear CS; rintro e w1 ⟨rfl, hB1⟩; have hD1 := hD0.out.below hB1; clear hD0 hB1; obtain ⟨k0, k1, k2, k3, k4, hl1⟩ := ctO_cells hD1.box; have B1 := hD1.bel; replace hD1 := Mr.hid hD1; replace B1 := Mr.hid B1) | (go_at_call 47; refine (CT.out _ B1.out).mono ?_; clear CT; rintro e w2 ⟨rfl, hB2⟩; have hD2 := hD1.out.below hB2; clear hD1 hB2 k0 k1 k2 k3 k4; obtain ⟨k0, k1, k2, k3, k4, hl2⟩ := ctO_cells hD2.box; have B2 := hD2.bel; replace hD2 := Mr.hid hD2; replace B2 := Mr.hid B2))
  rw [show W.heap.size + 1 + 1 = W.heap.size + 2 from rfl]
  have hlq : pi < x.set.length := by rw [hpi.out]; exact inB_lt hi.out
  have hlp : pi ≤ x.set.length := by omega
  have hlI : (pi : Int) ≤ (x.set.length : Int) := by omega
  have hlJ : (pi : Int) + 1 ≤ (x.set.length : Int) := by omega
  have hcI : (x.set.length : Int) ≤ (c3 : Int) := by omega
  have hcJ : (pi : Int) ≤ (c3 : Int) := by omega
  have hcK : (pi : Int) + 1 ≤ (c3 : Int) := by omega
  obtain ⟨ii, p1, p2, p3, p4⟩ := info_parts info_i
  have hu2 := hu.out.set.below B2.out
  obtain ⟨na, nb⟩ := has_take hu2 pi hlp
  rw [ints_take] at nb
  have hl2' : W.heap.size + 3 ≤ w2.heap.size := by have := (Array.getElem?_eq_some_iff.1 hD2.out.ans).1; omega
  have eT : (ints (x.set.take pi)).length = pi * 1 := by simp [ints]; omega
  have oT := one_ints (x.set.take pi)
  obtain ⟨da, db⟩ := has_drop hu2 (pi + 1) (by omega) (if c3 = pi + 1 then a3 else Option.map (fun x => { block := x.block, off := x.off + (pi + 1) }) a3) (by by_cases h : c3 = pi + 1; exact Or.inl (by omega); exact Or.inr (by rw [if_neg h, Nat.mul_one, add_pos]))
  rw [ints_drop] at db
  have eD : (ints (x.set.drop (pi + 1))).length = (x.set.length - (pi + 1)) * 1 := by simp [ints]
  have oD := one_ints (x.set.drop (pi + 1))
  have F9 := fun w9 (B9 : Below w2.heap.size w2 w9) b9 c9 (h9 : Has w9 (Tn S W.heap.size) 3 1 (.slice b9 (pi + (x.set.length - (pi + 1))) c9) (pi + (x.set.length - (pi + 1))) (ints (x.set.take pi) ++ ints (x.set.drop (pi + 1)))) => (hD2.out.below B9).put3 (v' := .slice b9 (pi + (x.set.length - (pi + 1))) c9) (l := delL x.set arg) (by have h := Sl.of_has h9; obtain ⟨y1, y2⟩ := del_eq (k := arg) hpi.out hlq; rw [y2] at h; rw [y1] at h ⊢; exact h)
  replace F9 := Mr.hid F9
  replace da := Mr.hid da
  replace db := Mr.hid db
  replace eD := Mr.hid eD
  replace oD := Mr.hid oD
  replace na := Mr.hid na
  replace nb := Mr.hid nb
  replace hu2 := Mr.hid hu2
  replace eT := Mr.hid eT
  replace oT := Mr.hid oT
  go_upto_region 11 with (fail)
  obtain ⟨f0, f1, f2, f3, f4⟩ := ctO_thaw hD2.out.box
  have ew : IntKind.i64.wrap ((pi : Int) + 1) = (pi : Int) + 1 := i64w _ (by omega) (by omega)
  have et : ((pi : Int) + 1).toNat = pi + 1 := by omega
  have hz0 : (0 : Int) ≤ (pi : Int) + 1 := by omega
  go_region_law (first | (refine step_append_fresh _ rfl (.const (.slice none 0 0)) (.tmp 61) 22 rfl (Tn S W.heap.size) 3 ii _ 1 8 Try.underlying22 p1 p2 p3 p4 rfl rfl a3 pi c3 (ints (x.set.take pi)) (by first | rfl | simp [Act.eval]) eT.out na.out (nb.out _ (Below.refl _ _).drew) oT.out (by unfold maxLen; omega) (by omega) (tn_new hl2') ?_; intro r7 w7 h7 hg7 hat7; have B7 := (Below.refl w2.heap.size w2).drew.grown hg7 (Nat.le_refl _) (by simp); obtain ⟨p7, q7, rfl, _⟩ := h7.form; have hD7 := hD2.out.below B7; obtain ⟨k0, k1, k2, k3, k4, hl7⟩ := ctO_cells hD7.box; obtain ⟨f0, f1, f2, f3, f4⟩ := ctO_thaw hD7.box; replace h7 := Mr.hid h7; replace hat7 := Mr.hid hat7; clear hg7; replace hD7 := Mr.hid hD7; replace B7 := Mr.hid B7) | (refine step_append_any _ rfl (.tmp 62) (.tmp 67) 22 rfl (Tn S W.heap.size) 3 ii _ 1 8 Try.underlying22 p1 p2 p3 p4 rfl (.slice p7 pi q7) pi (ints (x.set.take pi)) (by first | rfl | simp [Act.eval]) h7.out (if c3 = pi + 1 then a3 else Option.map (fun x => { block := x.block, off := x.off + (pi + 1) }) a3) (x.set.length - (pi + 1)) (c3 - (pi + 1)) (ints (x.set.drop (pi + 1))) (by first | rfl | simp [Act.eval]) eD.out da.out (db.out _ B7.out) oD.out (by unfold maxLen; omega) (by omega) (tn_new (by have := B7.out.size; omega)) ?_; intro b9 c9 w9 h9 hg9 hat9; have B9 := B7.out.grown hg9 B7.out.size (fun k hk => Nat.le_of_eq (hat7.out k hk).symm); have hD9 := F9.out w9 B9 b9 c9 h9; have hE9 := hD2.out.below B9; obtain ⟨k0, k1, k2, k3, k4, hl9⟩ := ctO_cells hE9.box; obtain ⟨f0, f1, f2, f3, f4⟩ := ctO_thaw hE9.box; replace hD9 := Mr.hid hD9; clear hg9 hat9 h9 hE9 B9))
  all_goals
    generalize (if c3 = pi + 1 then a3 else Option.map (fun x => { block := x.block, off := x.off + (pi + 1) }) a3) = ax at *
    go_upto_region 12 with (fail)
    have hD3 := hD9.out
    clear hD9 hD2 hD7 B7 h7 hat7 F9 k0 k1 k2 k3 k4 f0 f1 f2 f3 f4 hl9 na nb eT oT da db eD oD hu2 p1 p2 p3 p4 ew et hz0
    generalize (pi + (x.set.length - (pi + 1))) = nm at *
    generalize (w9.setCell { block := W.heap.size, off := 3 } (Value.slice b9 nm c9)) = w10 at *
    obtain ⟨k0, k1, k2, k3, k4, hlt⟩ := ctO_cells hD3.box
    replace hD3 := Mr.hid hD3
    go_region_held3 (fun w' => w'.cell? ⟨W.heap.size, 0, none⟩ = some (.slice a0 x.cell.length c0) ∧ w'.cell? ⟨W.heap.size, 1, none⟩ = some (.slice a1 x.stack.length c1) ∧ w'.cell? ⟨W.heap.size, 2, none⟩ = some (.slice a2 x.queue.length c2) ∧ w'.cell? ⟨W.heap.size, 3, none⟩ = some (.slice b9 nm c9) ∧ w'.cell? ⟨W.heap.size, 4, none⟩ = some (.slice a4 x.table.length c4)) (first | with_reducible exact K5.out | with_reducible exact K7.out | go_keep) (first | (go_at_call 48; refine (yes_any true _).mono ?_; rintro e w4 ⟨rfl, hB4⟩; have hD4 := hD3.out.drew.below hB4; clear hB4; unfold ans; obtain ⟨K5, K7⟩ := hD4.held 5 0; unfold set7 set5 at K7; unfold set5 at K5; replace K5 := Mr.hid K5; replace K7 := Mr.hid K7; obtain ⟨k0, k1, k2, k3, k4, hlt⟩ := ctO_cells hD4.box; obtain ⟨r0, r1, r2, r3, r4, hr⟩ := ctO_cells hD4.res; obtain ⟨f0, f1, f2, f3, f4⟩ := ctO_thaw hD4.res; obtain ⟨s0, s1, hs, s2, s3⟩ := ansO_cells hD4.ans; replace hD4 := Mr.hid hD4))
    obtain ⟨e1, e2, e3, e4⟩ := hD4.out.ends 5 0
    obtain ⟨d0, d1, d2, d3, d4, -⟩ := ctO_cells e3
    obtain ⟨g0, g1, -, -, -⟩ := ansO_cells e4
    unfold set7 set5 at e1 e2 d0 d1 d2 d3 d4 g0 g1
    replace e1 := Mr.hid e1
    replace e2 := Mr.hid e2
    clear e3 e4 hD4 K5 K7 k0 k1 k2 k3 k4 r0 r1 r2 r3 r4 f0 f1 f2 f3 f4 s0 s1 s2 s3
    go_wp2
    refine bodyPost_ret (v := .tuple #[.agg #[.slice a0 x.cell.length c0, .slice a1 x.stack.length c1, .slice a2 x.queue.length c2, .slice b9 nm c9, .slice a4 x.table.length c4], .agg #[.int .i64 5, .int .i64 0]]) (by simp [results, Try.results45, go_sem, d0, d1, d2, d3, d4, g0, g1]) rfl ?_
    exact ⟨_, _, _, _, _, by rw [dan_51 x arg, hi.out]; rfl, by rw [dnx_51 x arg data, hi.out]; exact e1.out, e2.out⟩
set_option maxRecDepth 100000 in
set_option maxHeartbeats 8000000 in
theorem key_60n {W : World} {S : Nat → Prop} {u0 u1 u2 u3 u4 : Value} {x : Ct} (hu : CtHas W S u0 u1 u2 u3 u4 x) (hin : CtIn 225000000000000 x) (arg data : Int) (hi : Hid (inB (keysOf x.table) arg = false)) :
    Calls Try.prog 45 #[.agg #[u0, u1, u2, u3, u4], .int .i64 60, .int .i64 arg, .int .i64 data] W fun e w' => ∃ v0 v1 v2 v3 v4, e = .returned (.tuple #[.agg #[v0, v1, v2, v3, v4], ans (dan x 60 arg).1 (dan x 60 arg).2]) ∧ CtAt w' (Tk S W.heap.size) v0 v1 v2 v3 v4 (dnx x 60 arg data) ∧ Below W.heap.size W w' := by
  obtain ⟨a0, c0, rfl, _⟩ := hu.cell.form
  obtain ⟨a1, c1, rfl, _⟩ := hu.stack.form
  obtain ⟨a2, c2, rfl, _⟩ := hu.queue.form
  obtain ⟨a3, c3, rfl, _⟩ := hu.set.form
  obtain ⟨a4, c4, rfl, _⟩ := hu.table.form
  have hD0 := key_pre hu
  have hin3 := hin.set
  have hin4 := hin.table
  have hA := hu.at
  have CS := fun w' (hB : Below W.heap.size W w') => set_any (hA.below hB).set (by omega) arg
  have CT := fun w' (hB : Below W.heap.size W w') => table_any (hA.below hB).table (by omega) arg
  obtain ⟨k0, k1, k2, k3, k4, -⟩ := ctO_cells hD0.box
  have B0 := hD0.bel
  clear hA hin
  unfold ctO ansO at B0 k0 k1 k2 k3 k4
  obtain ⟨bi, hbi⟩ : ∃ b, b = inB x.set arg := ⟨_, rfl⟩
  obtain ⟨bt, hbt⟩ : ∃ b, b = inB (x.table.map Prod.fst) arg := ⟨_, rfl⟩
  obtain ⟨pi, hpi⟩ : ∃ b, b = plc x.set arg := ⟨_, rfl⟩
  obtain ⟨pt, hpt⟩ : ∃ b, b = plc (x.table.map Prod.fst) arg := ⟨_, rfl⟩
  simp only [← hbi, ← hbt, ← hpi, ← hpt] at CS CT
  have hbq : bt = false := hbt.trans hi.out
  subst hbq
  replace hbi := Mr.hid hbi
  replace hbt := Mr.hid hbt
  replace hpi := Mr.hid hpi
  replace hpt := Mr.hid hpt
  replace hD0 := Mr.hid hD0
  replace CS := Mr.hid CS
  replace CT := Mr.hid CT
  replace B0 := Mr.hid B0
  replace hu := Mr.hid hu
  go_enter Try.func45, Try.ntmps45
  go_upto_region 3 with (first | (go_at_call 46; refine (CS.out _ B0.out).mono ?_; clear CS; rintro e w1 ⟨rfl, hB1⟩; have hD1 := hD0.out.below hB1; clear hD0 hB1; obtain ⟨k0, k1, k2, k3, k4, hl1⟩ := ctO_cells hD1.box; have B1 := hD1.bel; replace hD1 := Mr.hid hD1; replace B1 := Mr.hid B1) | (go_at_call 47; refine (CT.out _ B1.out).mono ?_; clear CT; rintro e w2 ⟨rfl, hB2⟩; have hD2 := hD1.out.below hB2; clear hD1 hB2 k0 k1 k2 k3 k4; obtain ⟨k0, k1, k2, k3, k4, hl2⟩ := ctO_cells hD2.box; have B2 := hD2.bel; replace hD2 := Mr.hid hD2; replace B2 := Mr.hid B2))
  rw [show W.heap.size + 1 + 1 = W.heap.size + 2 from rfl]
  have hlp : pt ≤ x.table.length := by rw [hpt.out]; exact plcT_le _ _
  have hlI : (pt : Int) ≤ (x.table.length : Int) := by omega
  have hcI : (x.table.length : Int) ≤ (c4 : Int) := by omega
  have hcJ : (pt : Int) ≤ (c4 : Int) := by omega
  obtain ⟨ii, p1, p2, p3, p4⟩ := info_parts info_p
  have hu2 := hu.out.table.below B2.out
  obtain ⟨na, nb⟩ := has_take hu2 pt hlp
  rw [prs_take] at nb
  have hl2' : W.heap.size + 3 ≤ w2.heap.size := by have := (Array.getElem?_eq_some_iff.1 hD2.out.ans).1; omega
  have eT : (prs (x.table.take pt)).length = pt * 2 := by rw [prs_length]; simp; omega
  have oT := one_prs (x.table.take pt)
  replace na := Mr.hid na
  replace nb := Mr.hid nb
  replace hu2 := Mr.hid hu2
  replace eT := Mr.hid eT
  replace oT := Mr.hid oT
  go_upto_region 18 with (first | (at_builtin; refine wpList_append_fresh _ rfl (.const (.slice none 0 0)) (.tmp 85) 23 rfl (Tn S W.heap.size) 73 ii _ 2 16 Try.underlying23 p1 p2 p3 p4 rfl rfl a4 pt c4 (prs (x.table.take pt)) rfl eT.out na.out (nb.out _ (Below.refl _ _)) oT.out (by unfold maxLen; omega) (by omega) (tn_new hl2') ?_; intro r6 w6 h6 hg6 hat6; have B6 := (Below.refl w2.heap.size w2).grown hg6 (Nat.le_refl _) (by simp); obtain ⟨p6, q6, rfl, _⟩ := h6.form; replace h6 := Mr.hid h6; replace hat6 := Mr.hid hat6; clear hg6; have hD6 := hD2.out.below B6; obtain ⟨k0, k1, k2, k3, k4, hl6⟩ := ctO_cells hD6.box; obtain ⟨f0, f1, f2, f3, f4⟩ := ctO_thaw hD6.box; replace hD6 := Mr.hid hD6; replace B6 := Mr.hid B6))
  clear na nb eT oT
  have L6 := fun o => (h6.out.below (Below.refl _ _).drew).alloc o
  have G6 := fun (o : Obj) (w7 : World) (hg : (w6.drew.alloc o).grownBy w7 (Value.slice p6 pt q6).ownBlock) => ((B6.out.drew.alloc B6.out.drew.size o).grown hg (by rw [World.size_alloc]; have := B6.out.drew.size; omega) (fun k hk => Nat.le_of_eq (hat6.out k hk).symm) : Below w2.heap.size w2 w7)
  have hl6' : W.heap.size + 3 ≤ w6.heap.size := by have := B6.out.size; omega
  have hT6 : Tn S W.heap.size (w6.heap.size + 1) := tn_new (by omega)
  obtain ⟨da, db⟩ := has_drop hu2.out pt hlp (if c4 = pt then a4 else Option.map (fun x => x.add (pt * 2)) a4) (by by_cases h : c4 = pt; exact Or.inl (by omega); exact Or.inr (by rw [if_neg h]))
  rw [prs_drop] at db
  have eD : (prs (x.table.drop pt)).length = (x.table.length - pt) * 2 := by rw [prs_length]; simp
  have oD := one_prs (x.table.drop pt)
  have F9 := fun w9 (B9 : Below w2.heap.size w2 w9) b9 c9 (h9 : Has w9 (Tn S W.heap.size) 73 2 (.slice b9 (pt + 1 + (x.table.length - pt)) c9) (pt + 1 + (x.table.length - pt)) (prs (x.table.take pt) ++ [.int .i64 arg, .int .i64 data] ++ prs (x.table.drop pt))) => (hD2.out.below B9).put4 (v' := .slice b9 (pt + 1 + (x.table.length - pt)) c9) (l := insT x.table arg data) (by have h := Sl.of_has h9; obtain ⟨y1, y2⟩ := insT_eq (k := arg) (d := data) hpt.out hlp; rw [y2] at h; rw [y1] at h ⊢; exact h)
  replace F9 := Mr.hid F9
  replace da := Mr.hid da
  replace db := Mr.hid db
  replace eD := Mr.hid eD
  replace oD := Mr.hid oD
  replace L6 := Mr.hid L6
  replace G6 := Mr.hid G6
  replace hT6 := Mr.hid hT6
  go_region_law (first | (refine step_append_has _ rfl (.tmp 87) (.tmp 91) 23 rfl (Tn S W.heap.size) 73 ii _ 2 16 Try.underlying23 p1 p2 p3 p4 rfl (.slice p6 pt q6) pt (prs (x.table.take pt)) (by first | rfl | simp [Act.eval]) (L6.out _) ⟨w6.heap.size, 0, none⟩ 1 1 [.int .i64 arg, .int .i64 data] (by first | rfl | simp [Act.eval]) rfl (news_pr w6.drew _ arg data rfl) (by simp [Value.oneCell']) (by omega) (by unfold maxLen; omega) (by omega) (by simpa using hT6.out) ?_; intro g7 c7 w7 h7 hg7 hat7; have B7 := G6.out _ w7 hg7; have hD7 := hD2.out.below B7; obtain ⟨k0, k1, k2, k3, k4, hl7⟩ := ctO_cells hD7.box; obtain ⟨f0, f1, f2, f3, f4⟩ := ctO_thaw hD7.box; replace hD7 := Mr.hid hD7; replace B7 := Mr.hid B7; replace h7 := Mr.hid h7; clear hg7; replace hat7 := Mr.hid hat7) | (refine step_append_any _ rfl (.tmp 92) (.tmp 96) 23 rfl (Tn S W.heap.size) 73 ii _ 2 16 Try.underlying23 p1 p2 p3 p4 rfl (.slice (some ⟨g7, 0, none⟩) (pt + 1) c7) (pt + 1) (prs (x.table.take pt) ++ [.int .i64 arg, .int .i64 data]) (by first | rfl | simp [Act.eval]) h7.out (if c4 = pt then a4 else Option.map (fun x => x.add (pt * 2)) a4) (x.table.length - pt) (c4 - pt) (prs (x.table.drop pt)) (by first | rfl | simp [Act.eval]) eD.out da.out (db.out _ B7.out) oD.out (by unfold maxLen; omega) (by omega) (tn_new (by have := B7.out.size; omega)) ?_; intro b9 c9 w9 h9 hg9 hat9; have B9 := B7.out.grown hg9 B7.out.size (fun k hk => own_ge hat6.out hat7.out B6.out.size k hk); have hD9 := F9.out w9 B9 b9 c9 h9; have hE9 := hD2.out.below B9; obtain ⟨k0, k1, k2, k3, k4, hl9⟩ := ctO_cells hE9.box; obtain ⟨f0, f1, f2, f3, f4⟩ := ctO_thaw hE9.box; replace hD9 := Mr.hid hD9; clear hg9 hat9 h9 hE9 B9))
  all_goals
    generalize (if c4 = pt then a4 else Option.map (fun x => x.add (pt * 2)) a4) = ax at *
    go_upto_region 19 with (fail)
    have hD3 := hD9.out
    clear hD9 hD2 hD6 hD7 B6 B7 L6 G6 h6 h7 hat6 hat7 F9 k0 k1 k2 k3 k4 f0 f1 f2 f3 f4 hl9 hT6 da db eD oD hu2 p1 p2 p3 p4
    generalize (pt + 1 + (x.table.length - pt)) = nm at *
    generalize (w9.setCell { block := W.heap.size, off := 4 } (Value.slice b9 nm c9)) = w10 at *
    obtain ⟨k0, k1, k2, k3, k4, hlt⟩ := ctO_cells hD3.box
    replace hD3 := Mr.hid hD3
    go_region_held3 (fun w' => w'.cell? ⟨W.heap.size, 0, none⟩ = some (.slice a0 x.cell.length c0) ∧ w'.cell? ⟨W.heap.size, 1, none⟩ = some (.slice a1 x.stack.length c1) ∧ w'.cell? ⟨W.heap.size, 2, none⟩ = some (.slice a2 x.queue.length c2) ∧ w'.cell? ⟨W.heap.size, 3, none⟩ = some (.slice a3 x.set.length c3) ∧ w'.cell? ⟨W.heap.size, 4, none⟩ = some (.slice b9 nm c9)) (first | with_reducible exact K5.out | with_reducible exact K7.out | go_keep) (first | (go_at_call 48; refine (yes_any true _).mono ?_; rintro e w4 ⟨rfl, hB4⟩; have hD4 := hD3.out.drew.below hB4; clear hB4; unfold ans; obtain ⟨K5, K7⟩ := hD4.held 5 0; unfold set7 set5 at K7; unfold set5 at K5; replace K5 := Mr.hid K5; replace K7 := Mr.hid K7; obtain ⟨k0, k1, k2, k3, k4, hlt⟩ := ctO_cells hD4.box; obtain ⟨r0, r1, r2, r3, r4, hr⟩ := ctO_cells hD4.res; obtain ⟨f0, f1, f2, f3, f4⟩ := ctO_thaw hD4.res; obtain ⟨s0, s1, hs, s2, s3⟩ := ansO_cells hD4.ans; replace hD4 := Mr.hid hD4))
    obtain ⟨e1, e2, e3, e4⟩ := hD4.out.ends 5 0
    obtain ⟨d0, d1, d2, d3, d4, -⟩ := ctO_cells e3
    obtain ⟨g0, g1, -, -, -⟩ := ansO_cells e4
    unfold set7 set5 at e1 e2 d0 d1 d2 d3 d4 g0 g1
    replace e1 := Mr.hid e1
    replace e2 := Mr.hid e2
    clear e3 e4 hD4 K5 K7 k0 k1 k2 k3 k4 r0 r1 r2 r3 r4 f0 f1 f2 f3 f4 s0 s1 s2 s3
    go_wp2
    refine bodyPost_ret (v := .tuple #[.agg #[.slice a0 x.cell.length c0, .slice a1 x.stack.length c1, .slice a2 x.queue.length c2, .slice a3 x.set.length c3, .slice b9 nm c9], .agg #[.int .i64 5, .int .i64 0]]) (by simp [results, Try.results45, go_sem, d0, d1, d2, d3, d4, g0, g1]) rfl ?_
    exact ⟨_, _, _, _, _, by rw [dan_60 x arg, hi.out]; rfl, by rw [dnx_60 x arg data, hi.out]; exact e1.out, e2.out⟩
set_option maxRecDepth 100000 in
set_option maxHeartbeats 8000000 in
theorem key_61y {W : World} {S : Nat → Prop} {u0 u1 u2 u3 u4 : Value} {x : Ct} (hu : CtHas W S u0 u1 u2 u3 u4 x) (hin : CtIn 225000000000000 x) (arg data : Int) (hi : Hid (inB (keysOf x.table) arg = true)) :
    Calls Try.prog 45 #[.agg #[u0, u1, u2, u3, u4], .int .i64 61, .int .i64 arg, .int .i64 data] W fun e w' => ∃ v0 v1 v2 v3 v4, e = .returned (.tuple #[.agg #[v0, v1, v2, v3, v4], ans (dan x 61 arg).1 (dan x 61 arg).2]) ∧ CtAt w' (Tk S W.heap.size) v0 v1 v2 v3 v4 (dnx x 61 arg data) ∧ Below W.heap.size W w' := by
  obtain ⟨a0, c0, rfl, _⟩ := hu.cell.form
  obtain ⟨a1, c1, rfl, _⟩ := hu.stack.form
  obtain ⟨a2, c2, rfl, _⟩ := hu.queue.form
  obtain ⟨a3, c3, rfl, _⟩ := hu.set.form
  obtain ⟨a4, c4, rfl, _⟩ := hu.table.form
  have hD0 := key_pre hu
  have hin3 := hin.set
  have hin4 := hin.table
  have hA := hu.at
  have CS := fun w' (hB : Below W.heap.size W w') => set_any (hA.below hB).set (by omega) arg
  have CT := fun w' (hB : Below W.heap.size W w') => table_any (hA.below hB).table (by omega) arg
  obtain ⟨k0, k1, k2, k3, k4, -⟩ := ctO_cells hD0.box
  have B0 := hD0.bel
  clear hA hin
  unfold ctO ansO at B0 k0 k1 k2 k3 k4
  obtain ⟨bi, hbi⟩ : ∃ b, b = inB x.set arg := ⟨_, rfl⟩
  obtain ⟨bt, hbt⟩ : ∃ b, b = inB (x.table.map Prod.fst) arg := ⟨_, rfl⟩
  obtain ⟨pi, hpi⟩ : ∃ b, b = plc x.set arg := ⟨_, rfl⟩
  obtain ⟨pt, hpt⟩ : ∃ b, b = plc (x.table.map Prod.fst) arg := ⟨_, rfl⟩
  simp only [← hbi, ← hbt, ← hpi, ← hpt] at CS CT
  have hbq : bt = true := hbt.trans hi.out
  subst hbq
  replace hbi := Mr.hid hbi
  replace hbt := Mr.hid hbt
  replace hpi := Mr.hid hpi
  replace hpt := Mr.hid hpt
  replace hD0 := Mr.hid hD0
  replace CS := Mr.hid CS
  replace CT := Mr.hid CT
  replace B0 := Mr.hid B0
  replace hu := Mr.hid hu
  go_enter Try.func45, Try.ntmps45
  go_upto_region 3 with (first | (go_at_call 46; refine (CS.out _ B0.out).mono ?_; clear CS; rintro e w1 ⟨rfl, hB1⟩; have hD1 := hD0.out.below hB1; clear hD0 hB1; obtain ⟨k0, k1, k2, k3, k4, hl1⟩ := ctO_cells hD1.box; have B1 := hD1.bel; replace hD1 := Mr.hid hD1; replace B1 := Mr.hid B1) | (go_at_call 47; refine (CT.out _ B1.out).mono ?_; clear CT; rintro e w2 ⟨rfl, hB2⟩; have hD2 := hD1.out.below hB2; clear hD1 hB2 k0 k1 k2 k3 k4; obtain ⟨k0, k1, k2, k3, k4, hl2⟩ := ctO_cells hD2.box; have B2 := hD2.bel; replace hD2 := Mr.hid hD2; replace B2 := Mr.hid B2))
  rw [show W.heap.size + 1 + 1 = W.heap.size + 2 from rfl]
  have hlp : pt < x.table.length := by have := inB_lt hi.out; rw [hpt.out]; simpa [keysOf] using this
  obtain ⟨g, cp, hpv, hSg, hlg, hcl, -⟩ := hu.out.table.there (by omega)
  cases hpv
  have hu3 := hu.out.table.below B2.out
  have kv := hu3.cells (g := g) rfl _ _ (prs_get x.table pt hlp).2
  obtain ⟨v, hv⟩ : ∃ v, v = (x.table[pt]?.getD (0, 0)).2 := ⟨_, rfl⟩
  rw [← hv] at kv
  replace hv := Mr.hid hv
  replace hu3 := Mr.hid hu3
  have hlg2 : g < w2.heap.size := by have := B2.out.size; omega
  have hlI : (pt : Int) < (x.table.length : Int) := by omega
  have hlq : pt < x.table.length := by rw [hpt.out]; exact inT_lt hi.out
  have hlp : pt ≤ x.table.length := by omega
  have hlH : (pt : Int) ≤ (x.table.length : Int) := by omega
  have hlJ : (pt : Int) + 1 ≤ (x.table.length : Int) := by omega
  have hcI : (x.table.length : Int) ≤ (c4 : Int) := by omega
  have hcJ : (pt : Int) ≤ (c4 : Int) := by omega
  have hcK : (pt : Int) + 1 ≤ (c4 : Int) := by omega
  obtain ⟨ii, p1, p2, p3, p4⟩ := info_parts info_p
  have hu2 := hu.out.table.below B2.out
  obtain ⟨na, nb⟩ := has_take hu2 pt hlp
  rw [prs_take] at nb
  have hl2' : W.heap.size + 3 ≤ w2.heap.size := by have := (Array.getElem?_eq_some_iff.1 hD2.out.ans).1; omega
  have eT : (prs (x.table.take pt)).length = pt * 2 := by rw [prs_length]; simp; omega
  have oT := one_prs (x.table.take pt)
  obtain ⟨da, db⟩ := has_drop hu2 (pt + 1) (by omega) (if c4 = pt + 1 then some ({ block := g, off := 0 } : Addr) else some { block := g, off := (pt + 1) * 2 }) (by by_cases h : c4 = pt + 1; exact Or.inl (by omega); exact Or.inr (by rw [if_neg h]; simp [add1]))
  rw [prs_drop] at db
  have eD : (prs (x.table.drop (pt + 1))).length = (x.table.length - (pt + 1)) * 2 := by rw [prs_length]; simp
  have oD := one_prs (x.table.drop (pt + 1))
  have F9 := fun w9 (B9 : Below w2.heap.size w2 w9) b9 c9 (h9 : Has w9 (Tn S W.heap.size) 73 2 (.slice b9 (pt + (x.table.length - (pt + 1))) c9) (pt + (x.table.length - (pt + 1))) (prs (x.table.take pt) ++ prs (x.table.drop (pt + 1)))) => (hD2.out.below B9).put4 (v' := .slice b9 (pt + (x.table.length - (pt + 1))) c9) (l := delT x.table arg) (by have h := Sl.of_has h9; obtain ⟨y1, y2⟩ := delT_eq (k := arg) hpt.out hlq; rw [y2] at h; rw [y1] at h ⊢; exact h)
  replace F9 := Mr.hid F9
  replace da := Mr.hid da
  replace db := Mr.hid db
  replace eD := Mr.hid eD
  replace oD := Mr.hid oD
  replace na := Mr.hid na
  replace nb := Mr.hid nb
  replace hu2 := Mr.hid hu2
  replace eT := Mr.hid eT
  replace oT := Mr.hid oT
  go_upto_region 24 with (fail)
  obtain ⟨f0, f1, f2, f3, f4⟩ := ctO_thaw hD2.out.box
  have ew : IntKind.i64.wrap ((pt : Int) + 1) = (pt : Int) + 1 := i64w _ (by omega) (by omega)
  have et : ((pt : Int) + 1).toNat = pt + 1 := by omega
  have hz0 : (0 : Int) ≤ (pt : Int) + 1 := by omega
  go_region_law (first | (refine step_append_fresh _ rfl (.const (.slice none 0 0)) (.tmp 118) 23 rfl (Tn S W.heap.size) 73 ii _ 2 16 Try.underlying23 p1 p2 p3 p4 rfl rfl (some ⟨g, 0, none⟩) pt c4 (prs (x.table.take pt)) (by first | rfl | simp [Act.eval]) eT.out na.out (nb.out _ (Below.refl _ _).drew) oT.out (by unfold maxLen; omega) (by omega) (tn_new hl2') ?_; intro r7 w7 h7 hg7 hat7; have B7 := (Below.refl w2.heap.size w2).drew.grown hg7 (Nat.le_refl _) (by simp); obtain ⟨p7, q7, rfl, _⟩ := h7.form; have hD7 := hD2.out.below B7; obtain ⟨k0, k1, k2, k3, k4, hl7⟩ := ctO_cells hD7.box; obtain ⟨f0, f1, f2, f3, f4⟩ := ctO_thaw hD7.box; replace h7 := Mr.hid h7; replace hat7 := Mr.hid hat7; clear hg7; replace hD7 := Mr.hid hD7; replace B7 := Mr.hid B7) | (refine step_append_any _ rfl (.tmp 119) (.tmp 124) 23 rfl (Tn S W.heap.size) 73 ii _ 2 16 Try.underlying23 p1 p2 p3 p4 rfl (.slice p7 pt q7) pt (prs (x.table.take pt)) (by first | rfl | simp [Act.eval]) h7.out (if c4 = pt + 1 then some ({ block := g, off := 0 } : Addr) else some { block := g, off := (pt + 1) * 2 }) (x.table.length - (pt + 1)) (c4 - (pt + 1)) (prs (x.table.drop (pt + 1))) (by first | rfl | simp [Act.eval]) eD.out da.out (db.out _ B7.out) oD.out (by unfold maxLen; omega) (by omega) (tn_new (by have := B7.out.size; omega)) ?_; intro b9 c9 w9 h9 hg9 hat9; have B9 := B7.out.grown hg9 B7.out.size (fun k hk => Nat.le_of_eq (hat7.out k hk).symm); have hD9 := F9.out w9 B9 b9 c9 h9; have hE9 := hD2.out.below B9; obtain ⟨k0, k1, k2, k3, k4, hl9⟩ := ctO_cells hE9.box; obtain ⟨f0, f1, f2, f3, f4⟩ := ctO_thaw hE9.box; replace hD9 := Mr.hid hD9; clear hg9 hat9 h9 hE9 B9))
  all_goals
    generalize (if c4 = pt + 1 then some ({ block := g, off := 0 } : Addr) else some { block := g, off := (pt + 1) * 2 }) = ax at *
    go_upto_region 25 with (fail)
    have hD3 := hD9.out
    clear hD9 hD2 hD7 B7 h7 hat7 F9 k0 k1 k2 k3 k4 f0 f1 f2 f3 f4 hl9 na nb eT oT da db eD oD hu2 p1 p2 p3 p4 ew et hz0 hu3 kv
    generalize (pt + (x.table.length - (pt + 1))) = nm at *
    generalize (w9.setCell { block := W.heap.size, off := 4 } (Value.slice b9 nm c9)) = w10 at *
    obtain ⟨k0, k1, k2, k3, k4, hlt⟩ := ctO_cells hD3.box
    replace hD3 := Mr.hid hD3
    go_region_held3 (fun w' => w'.cell? ⟨W.heap.size, 0, none⟩ = some (.slice a0 x.cell.length c0) ∧ w'.cell? ⟨W.heap.size, 1, none⟩ = some (.slice a1 x.stack.length c1) ∧ w'.cell? ⟨W.heap.size, 2, none⟩ = some (.slice a2 x.queue.length c2) ∧ w'.cell? ⟨W.heap.size, 3, none⟩ = some (.slice a3 x.set.length c3) ∧ w'.cell? ⟨W.heap.size, 4, none⟩ = some (.slice b9 nm c9)) (first | with_reducible exact K5.out | with_reducible exact K7.out | go_keep) (first | (go_at_call 44; refine (value_any v _).mono ?_; rintro e w4 ⟨rfl, hB4⟩; have hD4 := hD3.out.drew.below hB4; clear hB4; unfold ans; obtain ⟨K5, K7⟩ := hD4.held 2 v; unfold set7 set5 at K7; unfold set5 at K5; replace K5 := Mr.hid K5; replace K7 := Mr.hid K7; obtain ⟨k0, k1, k2, k3, k4, hlt⟩ := ctO_cells hD4.box; obtain ⟨r0, r1, r2, r3, r4, hr⟩ := ctO_cells hD4.res; obtain ⟨f0, f1, f2, f3, f4⟩ := ctO_thaw hD4.res; obtain ⟨s0, s1, hs, s2, s3⟩ := ansO_cells hD4.ans; replace hD4 := Mr.hid hD4))
    obtain ⟨e1, e2, e3, e4⟩ := hD4.out.ends 2 v
    obtain ⟨d0, d1, d2, d3, d4, -⟩ := ctO_cells e3
    obtain ⟨g0, g1, -, -, -⟩ := ansO_cells e4
    unfold set7 set5 at e1 e2 d0 d1 d2 d3 d4 g0 g1
    replace e1 := Mr.hid e1
    replace e2 := Mr.hid e2
    clear e3 e4 hD4 K5 K7 k0 k1 k2 k3 k4 r0 r1 r2 r3 r4 f0 f1 f2 f3 f4 s0 s1 s2 s3
    go_wp2
    refine bodyPost_ret (v := .tuple #[.agg #[.slice a0 x.cell.length c0, .slice a1 x.stack.length c1, .slice a2 x.queue.length c2, .slice a3 x.set.length c3, .slice b9 nm c9], .agg #[.int .i64 2, .int .i64 v]]) (by simp [results, Try.results45, go_sem, d0, d1, d2, d3, d4, g0, g1]) rfl ?_
    exact ⟨_, _, _, _, _, by rw [dan_61 x arg, getT_y hi.out, hv.out, hpt.out]; rfl, by rw [dnx_61 x arg data, hi.out]; exact e1.out, e2.out⟩
end Go.Proofs.Ytegbcocbopgghac.Md
/-
  reclaimmodel.Do, of every op that has an object.
-/
namespace Go.Proofs.Ytegbcocbopgghac.Md
open Go.RowKit Mr Me
set_option linter.unusedVariables false
set_option linter.unusedSimpArgs false
theorem key_any {W : World} {S : Nat → Prop} {u0 u1 u2 u3 u4 : Value} {x : Ct} (hu : CtHas W S u0 u1 u2 u3 u4 x) (hin : CtIn 225000000000000 x) (op arg data : Int) (ho : op = 50 ∨ op = 51 ∨ op = 52 ∨ op = 60 ∨ op = 61 ∨ op = 62) :
    Calls Try.prog 45 #[.agg #[u0, u1, u2, u3, u4], .int .i64 op, .int .i64 arg, .int .i64 data] W fun e w' => ∃ v0 v1 v2 v3 v4, e = .returned (.tuple #[.agg #[v0, v1, v2, v3, v4], ans (dan x op arg).1 (dan x op arg).2]) ∧ CtAt w' (Tk S W.heap.size) v0 v1 v2 v3 v4 (dnx x op arg data) ∧ Below W.heap.size W w' := by
  have hs : inB x.set arg = true ∨ inB x.set arg = false := by cases inB x.set arg <;> simp
  have ht : inB (keysOf x.table) arg = true ∨ inB (keysOf x.table) arg = false := by cases inB (keysOf x.table) arg <;> simp
  rcases ho with rfl | rfl | rfl | rfl | rfl | rfl
  · rcases hs with h | h
    · exact key_50y hu hin arg data (Mr.hid h)
    · exact key_50n hu hin arg data (Mr.hid h)
  · rcases hs with h | h
    · exact key_51y hu hin arg data (Mr.hid h)
    · exact key_51n hu hin arg data (Mr.hid h)
  · exact key_52 hu hin arg data
  · rcases ht with h | h
    · exact key_60y hu hin arg data (Mr.hid h)
    · exact key_60n hu hin arg data (Mr.hid h)
  · rcases ht with h | h
    · exact key_61y hu hin arg data (Mr.hid h)
    · exact key_61n hu hin arg data (Mr.hid h)
  · rcases ht with h | h
    · exact key_62y hu hin arg data (Mr.hid h)
    · exact key_62n hu hin arg data (Mr.hid h)
theorem ends_any {W w : World} {T : Nat → Prop} {v0 v1 v2 v3 v4 : Value} {y : Ct} {u0 u1 u2 u3 u4 : Value} {a b : Int} (hb : Below W.heap.size W w) (hr : w.heap[W.heap.size + 1]? = some (ctO u0 u1 u2 u3 u4)) (ha : w.heap[W.heap.size + 2]? = some (ansO a b)) (hat : CtAt w T v0 v1 v2 v3 v4 y) (hT : ∀ k, T k → W.heap.size ≤ k ∧ k ≠ W.heap.size + 1 ∧ k ≠ W.heap.size + 2) (k v : Int) :
    CtAt (set7 w (W.heap.size + 1) v0 v1 v2 v3 v4 (W.heap.size + 2) k v) (fun q => W.heap.size ≤ q) v0 v1 v2 v3 v4 y ∧ Below W.heap.size W (set7 w (W.heap.size + 1) v0 v1 v2 v3 v4 (W.heap.size + 2) k v) ∧
    (set7 w (W.heap.size + 1) v0 v1 v2 v3 v4 (W.heap.size + 2) k v).heap[W.heap.size + 1]? = some (ctO v0 v1 v2 v3 v4) ∧ (set7 w (W.heap.size + 1) v0 v1 v2 v3 v4 (W.heap.size + 2) k v).heap[W.heap.size + 2]? = some (ansO k v) := by
  have h1 := set5_at v0 v1 v2 v3 v4 hr
  have h2 := set5_below v0 v1 v2 v3 v4 hb (Nat.le_succ _)
  have h3 := (set5_far w (W.heap.size + 1) v0 v1 v2 v3 v4 (W.heap.size + 2) (by omega)).trans ha
  have hf := (set5_fr w (W.heap.size + 1) v0 v1 v2 v3 v4).mono (T := fun q => q = W.heap.size + 1 ∨ q = W.heap.size + 2) (fun q hq => .inl hq)
  unfold set7
  generalize set5 w (W.heap.size + 1) v0 v1 v2 v3 v4 = w5 at *
  have h4 := setBlk (setBlk h3 0 (.int .i64 k)) 1 (.int .i64 v)
  have hf2 : ∀ q, q ≠ W.heap.size + 2 → ((w5.setCell ⟨W.heap.size + 2, 0, none⟩ (.int .i64 k)).setCell ⟨W.heap.size + 2, 1, none⟩ (.int .i64 v)).heap[q]? = w5.heap[q]? := fun q hq => by
    rw [Below.heap_setCell _ _ _ q hq, Below.heap_setCell _ _ _ q hq]
  have hfr : Fr w ((w5.setCell ⟨W.heap.size + 2, 0, none⟩ (.int .i64 k)).setCell ⟨W.heap.size + 2, 1, none⟩ (.int .i64 v)) (fun q => q = W.heap.size + 1 ∨ q = W.heap.size + 2) :=
    (hf.setCell ⟨W.heap.size + 2, 0, none⟩ (.int .i64 k) (Or.inl (Or.inr rfl))).setCell ⟨W.heap.size + 2, 1, none⟩ (.int .i64 v) (Or.inl (Or.inr rfl))
  exact ⟨(hat.fr hfr (fun q hq hl e => by have := hT q hq; omega)).mono (fun q hq => (hT q hq).1), (h2.setCell (p := ⟨W.heap.size + 2, 0, none⟩) (Nat.le_add_right _ 2) _).setCell (p := ⟨W.heap.size + 2, 1, none⟩) (Nat.le_add_right _ 2) _, (hf2 _ (by omega)).trans h1, h4⟩
set_option maxRecDepth 100000 in
set_option maxHeartbeats 8000000 in
theorem do_key {W : World} {S : Nat → Prop} {u0 u1 u2 u3 u4 : Value} {x : Ct} (hu : CtAt W S u0 u1 u2 u3 u4 x) (hin : CtIn 225000000000000 x) (arg data : Int) (op : Int) (ho : op = 50 ∨ op = 51 ∨ op = 52 ∨ op = 60 ∨ op = 61 ∨ op = 62) :
    Calls Try.prog 40 #[.agg #[u0, u1, u2, u3, u4], .int .i64 op, .int .i64 arg, .int .i64 data] W fun e w' => ∃ v0 v1 v2 v3 v4, e = .returned (.tuple #[.agg #[v0, v1, v2, v3, v4], ans (dan x op arg).1 (dan x op arg).2]) ∧ CtAt w' (fun k => W.heap.size ≤ k) v0 v1 v2 v3 v4 (dnx x op arg data) ∧ Below W.heap.size W w' := by
  obtain ⟨ak, av, hak⟩ : ∃ a b, (dan x op arg) = (a, b) := ⟨_, _, rfl⟩
  rw [hak]
  replace hak := Mr.hid hak
  have C := fun w' (hB : Below W.heap.size W w') => copy_any (hu.below hB) hin
  obtain ⟨a0, c0, rfl, _⟩ := hu.cell.form
  obtain ⟨a1, c1, rfl, _⟩ := hu.stack.form
  obtain ⟨a2, c2, rfl, _⟩ := hu.queue.form
  obtain ⟨a3, c3, rfl, _⟩ := hu.set.form
  obtain ⟨a4, c4, rfl, _⟩ := hu.table.form
  have B0 := (((Below.refl W.heap.size W).alloc (Nat.le_refl _) (ctO (.slice a0 x.cell.length c0) (.slice a1 x.stack.length c1) (.slice a2 x.queue.length c2) (.slice a3 x.set.length c3) (.slice a4 x.table.length c4))).alloc (by simp) nil5).alloc (by simp; omega) (ansO 0 0)
  have DP := fun w1 v0 v1 v2 v3 v4 (hv : CtHas w1 (fun k => W.heap.size + 3 ≤ k) v0 v1 v2 v3 v4 x) => do_pre (W := W) (w1 := w1) (o := ctO (.slice a0 x.cell.length c0) (.slice a1 x.stack.length c1) (.slice a2 x.queue.length c2) (.slice a3 x.set.length c3) (.slice a4 x.table.length c4)) hv
  have BX := fun w1 (hB : Below (W.heap.size + 3) (((W.alloc (ctO (.slice a0 x.cell.length c0) (.slice a1 x.stack.length c1) (.slice a2 x.queue.length c2) (.slice a3 x.set.length c3) (.slice a4 x.table.length c4))).alloc nil5).alloc (ansO 0 0)) w1) => (show W.heap.size + 3 ≤ w1.heap.size from by have := hB.size; simp only [World.size_alloc] at this; omega)
  clear hu
  have q22 : (op == 22) = false := by rw [beq_eq_false_iff_ne]; omega
  have q23 : (op == 23) = false := by rw [beq_eq_false_iff_ne]; omega
  have q30 : (op == 30) = false := by rw [beq_eq_false_iff_ne]; omega
  have q31 : (op == 31) = false := by rw [beq_eq_false_iff_ne]; omega
  have q40 : (op == 40) = false := by rw [beq_eq_false_iff_ne]; omega
  have q41 : (op == 41) = false := by rw [beq_eq_false_iff_ne]; omega
  replace ho := Mr.hid ho
  unfold nil5 ctO ansO at B0 BX
  unfold ctO ansO at DP
  replace C := Mr.hid C
  replace B0 := Mr.hid B0
  replace BX := Mr.hid BX
  replace DP := Mr.hid DP
  go_enter Try.func40, Try.ntmps40
  go_upto_region 2 with (go_at_call 11; refine (C.out _ B0.out).mono ?_; clear C; rintro e w1 ⟨v0, v1, v2, v3, v4, rfl, hv, hJ, hB1⟩; simp only [World.size_alloc] at hB1 hv; have hsz := BX.out w1 hB1; obtain ⟨hD, hH⟩ := DP.out _ _ _ _ _ _ hv hB1; clear DP BX; obtain ⟨pv0, qv0, rfl, _⟩ := hv.cell.form; obtain ⟨pv1, qv1, rfl, _⟩ := hv.stack.form; obtain ⟨pv2, qv2, rfl, _⟩ := hv.queue.form; obtain ⟨pv3, qv3, rfl, _⟩ := hv.set.form; obtain ⟨pv4, qv4, rfl, _⟩ := hv.table.form; clear hv hB1 B0; replace hD := Mr.hid hD; replace hH := Mr.hid hH; replace hJ := Mr.hid hJ)
  rw [show W.heap.size + 1 + 1 = W.heap.size + 2 from rfl]
  obtain ⟨bs, hbs⟩ : ∃ b, b = w1.heap.size := ⟨_, rfl⟩
  rw [← hbs] at hD hH ⊢
  have hlt : bs < (w1.alloc (ctO (.slice pv0 x.cell.length qv0) (.slice pv1 x.stack.length qv1) (.slice pv2 x.queue.length qv2) (.slice pv3 x.set.length qv3) (.slice pv4 x.table.length qv4))).heap.size := by rw [World.size_alloc]; omega
  unfold ctO at hlt
  generalize w1.alloc (.cells #[.slice pv0 x.cell.length qv0, .slice pv1 x.stack.length qv1, .slice pv2 x.queue.length qv2, .slice pv3 x.set.length qv3, .slice pv4 x.table.length qv4] 25 (0, 0)) = w2 at *
  have hb3 : W.heap.size + 3 ≤ bs := by omega
  clear hsz hbs w1
  obtain ⟨k0, k1, k2, k3, k4, -⟩ := ctO_cells hD.out.box
  obtain ⟨f0, f1, f2, f3, f4⟩ := ctO_thaw hD.out.box
  have CK := key_any hH.out hin op arg data ho.out
  have EK := fun w4 v0 v1 v2 v3 v4 (hat : CtAt w4 (Tk (Tr W.heap.size bs) w2.heap.size) v0 v1 v2 v3 v4 (dnx x op arg data)) (hB : Below w2.heap.size w2 w4) => ends_any (W := W) (hD.out.below hB).bel (hD.out.below hB).res (hD.out.below hB).ans hat (fun k hk => by have hs := hD.out.bel.size; unfold Tk Tr at hk; omega) ak av
  have RK := fun w4 (hB : Below w2.heap.size w2 w4) => (hD.out.below hB)
  rw [hak.out] at CK
  replace CK := Mr.hid CK
  replace EK := Mr.hid EK
  replace RK := Mr.hid RK
  clear hD hH hJ hin
  go_wp2_with (first | (go_at_call 45; refine CK.out.mono ?_; clear CK; rintro e w4 ⟨v0, v1, v2, v3, v4, rfl, hat, hB4⟩; have hD4 := RK.out w4 hB4; obtain ⟨e1, e2, e3, e4⟩ := EK.out w4 v0 v1 v2 v3 v4 hat hB4; clear EK RK; obtain ⟨z0, y0, rfl, _⟩ := hat.cell.form; obtain ⟨z1, y1, rfl, _⟩ := hat.stack.form; obtain ⟨z2, y2, rfl, _⟩ := hat.queue.form; obtain ⟨z3, y3, rfl, _⟩ := hat.set.form; obtain ⟨z4, y4, rfl, _⟩ := hat.table.form; clear hat hB4; unfold ans; obtain ⟨r0, r1, r2, r3, r4, hr⟩ := ctO_cells hD4.res; obtain ⟨f0, f1, f2, f3, f4⟩ := ctO_thaw hD4.res; obtain ⟨s0, s1, hs, s2, s3⟩ := ansO_cells hD4.ans; clear hD4; replace e1 := Mr.hid e1; replace e2 := Mr.hid e2; replace e3 := Mr.hid e3; replace e4 := Mr.hid e4))
  obtain ⟨d0, d1, d2, d3, d4, -⟩ := ctO_cells e3.out
  obtain ⟨g0, g1, -, -, -⟩ := ansO_cells e4.out
  replace e1 := e1.out
  replace e2 := e2.out
  unfold set7 set5 at e1 e2 d0 d1 d2 d3 d4 g0 g1
  replace e1 := Mr.hid e1
  replace e2 := Mr.hid e2
  clear e3 e4 r0 r1 r2 r3 r4 f0 f1 f2 f3 f4 s0 s1 s2 s3
  refine bodyPost_ret (v := .tuple #[.agg #[.slice z0 (dnx x op arg data).cell.length y0, .slice z1 (dnx x op arg data).stack.length y1, .slice z2 (dnx x op arg data).queue.length y2, .slice z3 (dnx x op arg data).set.length y3, .slice z4 (dnx x op arg data).table.length y4], .agg #[.int .i64 ak, .int .i64 av]]) (by simp [results, Try.results40, go_sem, d0, d1, d2, d3, d4, g0, g1]) rfl ?_
  exact ⟨_, _, _, _, _, rfl, e1.out, e2.out⟩
theorem ne_pos {α : Type} {l : List α} (h : l ≠ []) : 0 < l.length := by cases l with
  | nil => exact absurd rfl h
  | cons a l => simp
/-- Do, of any op that has an object. -/
theorem do_any {W : World} {S : Nat → Prop} {u0 u1 u2 u3 u4 : Value} {x : Ct} (hu : CtAt W S u0 u1 u2 u3 u4 x) (hin : CtIn 225000000000000 x) (op arg data : Int) (ho : obj op ≠ 0) :
    Calls Try.prog 40 #[.agg #[u0, u1, u2, u3, u4], .int .i64 op, .int .i64 arg, .int .i64 data] W fun e w' => ∃ v0 v1 v2 v3 v4, e = .returned (.tuple #[.agg #[v0, v1, v2, v3, v4], ans (dan x op arg).1 (dan x op arg).2]) ∧ CtAt w' (fun k => W.heap.size ≤ k) v0 v1 v2 v3 v4 (dnx x op arg data) ∧ Below W.heap.size W w' := by
  have h : op = 22 ∨ op = 23 ∨ op = 30 ∨ op = 31 ∨ op = 40 ∨ op = 41 ∨ (op = 50 ∨ op = 51 ∨ op = 52 ∨ op = 60 ∨ op = 61 ∨ op = 62) := by
    unfold obj at ho
    by_cases h1 : op = 22 ∨ op = 23
    · omega
    rw [if_neg h1] at ho
    by_cases h2 : op = 30 ∨ op = 31
    · omega
    rw [if_neg h2] at ho
    by_cases h3 : op = 40 ∨ op = 41
    · omega
    rw [if_neg h3] at ho
    by_cases h4 : op = 50 ∨ op = 51 ∨ op = 52
    · omega
    rw [if_neg h4] at ho
    by_cases h5 : op = 60 ∨ op = 61 ∨ op = 62
    · omega
    rw [if_neg h5] at ho
    exact absurd rfl ho
  rcases h with rfl | rfl | rfl | rfl | rfl | rfl | h
  · exact do_22 hu hin arg data
  · by_cases he : x.cell = []
    · exact do_23e hu hin arg data he
    · exact do_23n hu hin arg data (ne_pos he)
  · exact do_30 hu hin arg data
  · by_cases he : x.stack = []
    · exact do_31e hu hin arg data he
    · exact do_31n hu hin arg data (ne_pos he)
  · exact do_40 hu hin arg data
  · by_cases he : x.queue = []
    · exact do_41e hu hin arg data he
    · exact do_41n hu hin arg data (ne_pos he)
  · exact do_key hu hin arg data op h
end Go.Proofs.Ytegbcocbopgghac.Md
