import Derived.Test.YtnapnhmmopajfaaGreatJ10
/-
  Machine.Move by its cases, whatever the kit.
-/
namespace Go.Proofs.YtnapnhmmopajfaaGreat.Ma
open Go.RowKit Mr Me
section
variable {W : World} {U S : Nat → Prop} {q : Ph} {s : Ss} {X : Nat → Obj → Prop} {vl va : Value}
/-- The world behind the count. -/
def Wn (W : World) (b : Nat) (n : Int) (o : Obj) : World := (W.setCell ⟨b, 2, none⟩ (.int .i64 n)).alloc o
theorem Mch.setN (h : Mch W U S q vl va s X) (n : Int) (o : Obj) : Mch (Wn W q.b n o) U S q vl va { s with n := n } X ∧ Fr W (Wn W q.b n o) U ∧ W.heap.size < (Wn W q.b n o).heap.size := by
  obtain ⟨hx, hm⟩ := h
  have ho : ∀ k, k ≠ q.b → (W.setCell ⟨q.b, 2, none⟩ (.int .i64 n)).heap[k]? = W.heap[k]? := fun k hne => Below.heap_setCell _ _ _ k hne
  have hs : (W.setCell ⟨q.b, 2, none⟩ (.int .i64 n)).heap.size = W.heap.size := by simp
  have h1 : Mch (W.setCell ⟨q.b, 2, none⟩ (.int .i64 n)) U S q vl va { s with n := n } X := by
    refine ⟨fun k o hk => ?_, ⟨by rw [setBlk hm.blk]; rfl, (ho _ hm.bne.symm).trans hm.bk, hm.mem.kept (fun k hs' _ => ho k (fun e => hm.ub.2 (e ▸ hs'))), hm.thr.setCell _ _ (not_row hm.blk hm.thr (by decide)), hm.cal.setCell _ _ (not_row hm.blk hm.cal (by decide)), hm.shf.setCell _ _ (not_row hm.blk hm.shf (by decide)), hm.ub, hm.ubb, hm.su, fun k hk => by rw [hs]; exact hm.ul k hk⟩⟩
    obtain ⟨x1, x2, x3, x4, x5⟩ := hx k o hk
    exact ⟨(ho k x4).trans x1, x2, x3, x4, x5⟩
  refine ⟨h1.below ((Below.refl _ _).alloc (Nat.le_refl _) o), ((Fr.refl _ _).setCell _ _ (.inl hm.ub.1)).alloc o, by unfold Wn; simp⟩
section
variable (th op arg data : Int)
set_option maxRecDepth 100000 in
theorem mv_full (h : Mch W U S q vl va s X) (hn : 65536 ≤ s.n) :
    Calls Tryz.prog 11 #[.pointer (some ⟨q.b, 0, none⟩), .agg #[.int .i64 th, .int .i64 op, .int .i64 arg, .int .i64 data]] W fun e w' => e = .returned (.bool false) ∧ Below W.heap.size W w' := by
  have C := fun o => made_yes (h.below ((Below.refl _ _).alloc (Nat.le_refl _) o))
  have m2 := fun o => (h.below ((Below.refl _ _).alloc (Nat.le_refl _) o)).2.m2
  have hB := fun o => (Below.refl W.heap.size W).alloc (Nat.le_refl _) o
  have hd : decide (65536 ≤ s.n) = true := by simpa using hn
  clear h
  go_enter Tryz.func11, Tryz.ntmps11
  go_wp2_with (go_at_call 21; refine (C _).mono ?_; clear C; rintro e w' ⟨rfl, hw⟩; obtain rfl := hw.symm)
  go_ret
  exact ⟨rfl, hB _⟩
set_option maxRecDepth 100000 in
set_option maxHeartbeats 1000000 in
theorem mv_none (h : Mch W U S q vl va s X) (hn : s.n < 65536) (h0 : 0 ≤ s.n) (hth : th < 0 ∨ (q.nt : Int) ≤ th) :
    Calls Tryz.prog 11 #[.pointer (some ⟨q.b, 0, none⟩), .agg #[.int .i64 th, .int .i64 op, .int .i64 arg, .int .i64 data]] W fun e w' => e = .returned (.bool false) ∧ w' = Wn W q.b (s.n + 1) (mvO th op arg data) := by
  have C := fun o => made_yes (h.below ((Below.refl _ _).alloc (Nat.le_refl _) o))
  have m2 := fun o => (h.below ((Below.refl _ _).alloc (Nat.le_refl _) o)).2.m2
  have mz := fun o => (h.below ((Below.refl _ _).alloc (Nat.le_refl _) o)).2.mz 2
  have hN := (h.setN (s.n + 1) (mvO th op arg data)).1
  have H := hasT_no hN th hth
  have hd : decide (65536 ≤ s.n) = false := by simp; omega
  have hlt := h.2.lt
  have hne : W.heap.size ≠ q.b := by omega
  have hne' : q.b ≠ W.heap.size := by omega
  clear h
  replace hN := Mr.hid hN
  unfold Wn mvO at H
  clear hth
  go_enter Tryz.func11, Tryz.ntmps11
  go_wp2_with (first | (go_at_call 21; refine (C _).mono ?_; clear C; rintro e w' ⟨rfl, hw⟩; obtain rfl := hw.symm) | (go_at_call 22; refine H.mono ?_; clear H; rintro e w' ⟨rfl, hw⟩; obtain rfl := hw.symm))
  go_ret
  exact ⟨rfl, rfl⟩
end
set_option maxRecDepth 100000 in
set_option maxHeartbeats 1000000 in
theorem mv_step (h : Mch W U S q vl va s X) (hn : s.n < 65536) (h0 : 0 ≤ s.n) (i : Nat) (t : Th) (ht : s.ths[i]? = some t) (arg data : Int) {r : Bool} {R : World → Prop} (ST : Calls Tryz.prog 23 #[.pointer (some ⟨q.b, 0, none⟩), .int .i64 (i : Int), .int .i64 s.n] (Wn W q.b (s.n + 1) (mvO i 0 arg data)) fun e w' => e = .returned (.bool r) ∧ R w') :
    Calls Tryz.prog 11 #[.pointer (some ⟨q.b, 0, none⟩), .agg #[.int .i64 (i : Int), .int .i64 0, .int .i64 arg, .int .i64 data]] W fun e w' => e = .returned (.bool r) ∧ R w' := by
  have C := fun o => made_yes (h.below ((Below.refl _ _).alloc (Nat.le_refl _) o))
  have m2 := fun o => (h.below ((Below.refl _ _).alloc (Nat.le_refl _) o)).2.m2
  have mz := fun o => (h.below ((Below.refl _ _).alloc (Nat.le_refl _) o)).2.mz 2
  have hN := (h.setN (s.n + 1) (mvO i 0 arg data)).1
  have hi : i < q.nt := by rw [← h.nt]; exact (List.getElem?_eq_some_iff.1 ht).1
  have H := hasT_yes hN i hi
  have hd : decide (65536 ≤ s.n) = false := by simp; omega
  have hlt := h.2.lt
  have hne : W.heap.size ≠ q.b := by omega
  have hne' : q.b ≠ W.heap.size := by omega
  clear h ht
  replace hN := Mr.hid hN
  unfold Wn mvO at H ST
  go_enter Tryz.func11, Tryz.ntmps11
  go_wp2_with (first | (go_at_call 21; refine (C _).mono ?_; clear C; rintro e w' ⟨rfl, hw⟩; obtain rfl := hw.symm) | (go_at_call 22; refine H.mono ?_; clear H; rintro e w' ⟨rfl, hw⟩; obtain rfl := hw.symm) | (go_at_call 23; refine ST.mono ?_; clear ST; rintro e w1 ⟨rfl, h1⟩))
  go_ret
  exact ⟨rfl, h1⟩
set_option maxRecDepth 100000 in
set_option maxHeartbeats 1000000 in
theorem mv_busy (h : Mch W U S q vl va s X) (hn : s.n < 65536) (h0 : 0 ≤ s.n) (i : Nat) (t : Th) (ht : s.ths[i]? = some t) (op arg data : Int) (hop : op ≠ 0) (ty : TypeId) (v : Value) (htv : t.tv = .iface ty v) :
    Calls Tryz.prog 11 #[.pointer (some ⟨q.b, 0, none⟩), .agg #[.int .i64 (i : Int), .int .i64 op, .int .i64 arg, .int .i64 data]] W fun e w' => e = .returned (.bool false) ∧ w' = Wn W q.b (s.n + 1) (mvO i op arg data) := by
  have C := fun o => made_yes (h.below ((Below.refl _ _).alloc (Nat.le_refl _) o))
  have m2 := fun o => (h.below ((Below.refl _ _).alloc (Nat.le_refl _) o)).2.m2
  have mz := fun o => (h.below ((Below.refl _ _).alloc (Nat.le_refl _) o)).2.mz 2
  have hN := (h.setN (s.n + 1) (mvO i op arg data)).1
  have hi : i < q.nt := by rw [← h.nt]; exact (List.getElem?_eq_some_iff.1 ht).1
  have H := hasT_yes hN i hi
  have hd : decide (65536 ≤ s.n) = false := by simp; omega
  have hlt := h.2.lt
  have hne : W.heap.size ≠ q.b := by omega
  have hne' : q.b ≠ W.heap.size := by omega
  have B := busy_yes hN i t ht ty v htv
  have hop' : (op == 0) = false := by simpa using hop
  clear h ht
  replace hN := Mr.hid hN
  unfold Wn mvO at H B
  go_enter Tryz.func11, Tryz.ntmps11
  go_wp2_with (first | (go_at_call 21; refine (C _).mono ?_; clear C; rintro e w' ⟨rfl, hw⟩; obtain rfl := hw.symm) | (go_at_call 22; refine H.mono ?_; clear H; rintro e w' ⟨rfl, hw⟩; obtain rfl := hw.symm) | (go_at_call 13; refine B.mono ?_; clear B; rintro e w1 ⟨rfl, hw⟩; obtain rfl := hw.symm))
  go_ret
  exact ⟨rfl, rfl⟩
set_option maxRecDepth 100000 in
set_option maxHeartbeats 1000000 in
theorem mv_begin (h : Mch W U S q vl va s X) (hn : s.n < 65536) (h0 : 0 ≤ s.n) (i : Nat) (t : Th) (ht : s.ths[i]? = some t) (op arg data : Int) (hop : op ≠ 0) (htv : t.tv = .nilIface) {r : Bool} {R : World → Prop} (BG : Calls Tryz.prog 24 #[.pointer (some ⟨q.b, 0, none⟩), .agg #[.int .i64 (i : Int), .int .i64 op, .int .i64 arg, .int .i64 data], .int .i64 s.n] (Wn W q.b (s.n + 1) (mvO i op arg data)) fun e w' => e = .returned (.bool r) ∧ R w') :
    Calls Tryz.prog 11 #[.pointer (some ⟨q.b, 0, none⟩), .agg #[.int .i64 (i : Int), .int .i64 op, .int .i64 arg, .int .i64 data]] W fun e w' => e = .returned (.bool r) ∧ R w' := by
  have C := fun o => made_yes (h.below ((Below.refl _ _).alloc (Nat.le_refl _) o))
  have m2 := fun o => (h.below ((Below.refl _ _).alloc (Nat.le_refl _) o)).2.m2
  have mz := fun o => (h.below ((Below.refl _ _).alloc (Nat.le_refl _) o)).2.mz 2
  have hN := (h.setN (s.n + 1) (mvO i op arg data)).1
  have hi : i < q.nt := by rw [← h.nt]; exact (List.getElem?_eq_some_iff.1 ht).1
  have H := hasT_yes hN i hi
  have hd : decide (65536 ≤ s.n) = false := by simp; omega
  have hlt := h.2.lt
  have hne : W.heap.size ≠ q.b := by omega
  have hne' : q.b ≠ W.heap.size := by omega
  have B := busy_no hN i t ht htv
  have hop' : (op == 0) = false := by simpa using hop
  clear h ht
  replace hN := Mr.hid hN
  unfold Wn mvO at H B BG
  go_enter Tryz.func11, Tryz.ntmps11
  go_wp2_with (first | (go_at_call 21; refine (C _).mono ?_; clear C; rintro e w' ⟨rfl, hw⟩; obtain rfl := hw.symm) | (go_at_call 22; refine H.mono ?_; clear H; rintro e w' ⟨rfl, hw⟩; obtain rfl := hw.symm) | (go_at_call 13; refine B.mono ?_; clear B; rintro e w1 ⟨rfl, hw⟩; obtain rfl := hw.symm) | (go_at_call 24; refine BG.mono ?_; clear BG; rintro e w1 ⟨rfl, h1⟩))
  go_ret
  exact ⟨rfl, h1⟩
end
end Go.Proofs.YtnapnhmmopajfaaGreat.Ma
/-
  A MACHINE OF ANY TASKS: pure. What a layer's tasks do is told by 'Sys': what a step makes of the memory, of what the tasks share, of the task.
-/
namespace Go.Proofs.YtnapnhmmopajfaaGreat.Gm
open Go.RowKit Mr Me Ma
set_option linter.unusedVariables false
/-- A thread. -/
structure Pt (τ : Type) where
  tk : Option τ
  fr : Bool
  call : Int
  ak : Int
  av : Int
/-- What a step makes. -/
structure Ef (τ γ : Type) where
  ws : List Int
  la : List Acc
  g : γ
  tk : Option τ
  pt : Option Int
  tl : Option (Int × Int)
/-- The tasks of a layer. -/
structure Sys (τ γ : Type) where
  stp : Bool → Nat → Int → List Int → γ → τ → Ef τ γ
  mkr : Nat → Int → Int → Int → γ → Option τ
/-- The machine. -/
structure Pg (τ γ : Type) where
  pts : List (Pt τ)
  g : γ
  n : Nat
  cls : List Cl
  ws : List Int
  lg : List Acc
def setP (cls : List Cl) (c : Nat) (pt : Option Int) : List Cl :=
  match pt, cls[c]? with
  | some m, some cl => cls.set c { cl with pt := m }
  | _, _ => cls
def setE (cls : List Cl) (c : Nat) (now ak av : Int) : List Cl :=
  match cls[c]? with
  | some cl => cls.set c { cl with fin := now, ak := (endA ak av).1, av := (endA ak av).2 }
  | none => cls
def told (ak av : Int) (tl : Option (Int × Int)) : Int × Int := tl.getD (ak, av)
theorem setP_len (cls : List Cl) (c : Nat) (pt : Option Int) : (setP cls c pt).length = cls.length := by unfold setP; split <;> simp
theorem setE_len (cls : List Cl) (c : Nat) (now ak av : Int) : (setE cls c now ak av).length = cls.length := by unfold setE; split <;> simp
section
variable {τ γ : Type}
/-- What the threads are in. -/
def tkF (pts : List (Pt τ)) : Nat → Option τ := fun i => (pts[i]?).bind (·.tk)
def upd {α : Type} (f : Nat → α) (i : Nat) (x : α) : Nat → α := fun k => if k = i then x else f k
theorem upd_same {α : Type} (f : Nat → α) (i : Nat) (x : α) : upd f i x i = x := by simp [upd]
theorem upd_other {α : Type} (f : Nat → α) (i : Nat) (x : α) (j : Nat) (h : j ≠ i) : upd f i x j = f j := by simp [upd, h]
theorem tkF_set (pts : List (Pt τ)) (i : Nat) (t : Pt τ) (hi : i < pts.length) : tkF (pts.set i t) = upd (tkF pts) i t.tk := by
  funext j
  unfold tkF upd
  rw [List.getElem?_set]
  by_cases h : i = j
  · subst h; simp [hi]
  · rw [if_neg h, if_neg (fun e => h e.symm)]
theorem tkF_at {pts : List (Pt τ)} {i : Nat} {t : Pt τ} (h : pts[i]? = some t) : tkF pts i = t.tk := by unfold tkF; rw [h]; rfl
def thsG (pts : List (Pt τ)) (tv : Nat → Value) : List Th := pts.mapIdx (fun i t => ⟨tv i, t.fr, t.call, t.ak, t.av⟩)
theorem thsG_get (pts : List (Pt τ)) (tv : Nat → Value) (i : Nat) : (thsG pts tv)[i]? = (pts[i]?).map (fun t => ⟨tv i, t.fr, t.call, t.ak, t.av⟩) := by simp [thsG]
theorem thsG_len (pts : List (Pt τ)) (tv : Nat → Value) : (thsG pts tv).length = pts.length := by simp [thsG]
theorem thsG_put (pts : List (Pt τ)) (tv : Nat → Value) (i : Nat) (t : Pt τ) (v : Value) : (thsG pts tv).set i ⟨v, t.fr, t.call, t.ak, t.av⟩ = thsG (pts.set i t) (upd tv i v) := by
  apply List.ext_getElem?
  intro j
  rw [List.getElem?_set, thsG_get, thsG_get, List.getElem?_set, thsG_len]
  by_cases hj : i = j
  · subst hj
    simp only [if_true, upd_same]
    split <;> simp
  · simp only [if_neg hj, upd_other _ _ _ _ (fun e : j = i => hj e.symm)]
theorem upd_self {α : Type} (f : Nat → α) (i : Nat) : upd f i (f i) = f := by funext k; unfold upd; split <;> simp_all
variable (Y : Sys τ γ)
def Pg.count (P : Pg τ γ) : Pg τ γ := { P with n := P.n + 1 }
def Pg.stepE (P : Pg τ γ) (i : Nat) (t : Pt τ) (now : Int) (e : Ef τ γ) : Pg τ γ :=
  match e.tk with
  | some k => { P with pts := P.pts.set i ⟨some k, false, t.call, (told t.ak t.av e.tl).1, (told t.ak t.av e.tl).2⟩, g := e.g, cls := setP P.cls t.call.toNat e.pt, ws := e.ws, lg := P.lg ++ e.la }
  | none => { P with pts := P.pts.set i ⟨none, false, t.call, 0, 0⟩, g := e.g, cls := setE (setP P.cls t.call.toNat e.pt) t.call.toNat now (told t.ak t.av e.tl).1 (told t.ak t.av e.tl).2, ws := e.ws, lg := P.lg ++ e.la }
def Pg.step (P : Pg τ γ) (i : Nat) (t : Pt τ) (now : Int) : Pg τ γ × Bool :=
  match t.tk with
  | none => (P, false)
  | some k => (P.stepE i t now (Y.stp t.fr i now P.ws P.g k), true)
def Pg.begins (P : Pg τ γ) (i : Nat) (op arg data now : Int) : Pg τ γ × Bool :=
  match Y.mkr i op arg data P.g with
  | none => (P, false)
  | some k => ({ P with cls := P.cls ++ [⟨i, op, arg, data, now, -1, -1, 0, 0⟩], pts := P.pts.set i ⟨some k, true, (P.cls.length : Int), 0, 0⟩ }, true)
def Pg.move (P : Pg τ γ) (th op arg data : Int) : Pg τ γ × Bool :=
  if 65536 ≤ P.n then (P, false)
  else if 0 ≤ th ∧ th < P.pts.length then
    match P.pts[th.toNat]? with
    | none => (P.count, false)
    | some t => if op = 0 then P.count.step Y th.toNat t P.n else if t.tk.isSome = true then (P.count, false) else P.count.begins Y th.toNat op arg data P.n
  else (P.count, false)
/-- The bounds that every run keeps. -/
structure Bd (P : Pg τ γ) : Prop where
  n : P.n ≤ 65536
  cls : P.cls.length ≤ P.n
  lg : P.lg.length ≤ P.n
  cl : ∀ (i : Nat) (t : Pt τ), P.pts[i]? = some t → t.tk.isSome = true → ∃ c : Nat, t.call = c ∧ c < P.cls.length
variable {Y}
theorem pts_set {pts : List (Pt τ)} {i j : Nat} {t u : Pt τ} (h : (pts.set i t)[j]? = some u) : (j = i ∧ u = t) ∨ (j ≠ i ∧ pts[j]? = some u) := by
  rw [List.getElem?_set] at h
  by_cases e : i = j
  · rw [if_pos e] at h
    split at h
    · simp at h; exact .inl ⟨e.symm, h.symm⟩
    · cases h
  · rw [if_neg e] at h
    exact .inr ⟨fun e' => e e'.symm, h⟩
theorem Bd.count {P : Pg τ γ} (h : Bd P) (hn : P.n < 65536) : Bd P.count := ⟨by show P.n + 1 ≤ 65536; omega, Nat.le_succ_of_le h.cls, Nat.le_succ_of_le h.lg, h.cl⟩
theorem Bd.stepE {P : Pg τ γ} (h : Bd P) {i : Nat} {t : Pt τ} (ht : P.pts[i]? = some t) (hk : t.tk.isSome = true) (now : Int) (e : Ef τ γ) (hl : e.la.length ≤ 1) (hn : P.n < 65536) : Bd (P.count.stepE i t now e) := by
  obtain ⟨c, hc, hcl⟩ := h.cl i t ht hk
  unfold Pg.stepE
  split
  · refine ⟨by show P.n + 1 ≤ 65536; omega, ?_, ?_, ?_⟩
    · show (setP P.cls _ _).length ≤ P.n + 1
      rw [setP_len]; have := h.cls; omega
    · show (P.lg ++ e.la).length ≤ P.n + 1
      rw [List.length_append]; have := h.lg; omega
    · intro j u hu hs
      show ∃ c : Nat, u.call = c ∧ c < (setP P.cls _ _).length
      rw [setP_len]
      rcases pts_set hu with ⟨rfl, rfl⟩ | ⟨_, hj⟩
      · exact ⟨c, hc, hcl⟩
      · exact h.cl j u hj hs
  · refine ⟨by show P.n + 1 ≤ 65536; omega, ?_, ?_, ?_⟩
    · show (setE (setP P.cls _ _) _ _ _ _).length ≤ P.n + 1
      rw [setE_len, setP_len]; have := h.cls; omega
    · show (P.lg ++ e.la).length ≤ P.n + 1
      rw [List.length_append]; have := h.lg; omega
    · intro j u hu hs
      show ∃ c : Nat, u.call = c ∧ c < (setE (setP P.cls _ _) _ _ _ _).length
      rw [setE_len, setP_len]
      rcases pts_set hu with ⟨rfl, rfl⟩ | ⟨_, hj⟩
      · cases hs
      · exact h.cl j u hj hs
theorem Bd.begins {P : Pg τ γ} (h : Bd P) {i : Nat} (op arg data now : Int) (hn : P.n < 65536) : Bd (P.count.begins Y i op arg data now).1 := by
  unfold Pg.begins
  split
  · exact h.count hn
  · refine ⟨by show P.n + 1 ≤ 65536; omega, ?_, Nat.le_succ_of_le h.lg, ?_⟩
    · show (P.cls ++ [_]).length ≤ P.n + 1
      rw [List.length_append]; have := h.cls; simp; omega
    · intro j u hu hs
      rcases pts_set hu with ⟨rfl, rfl⟩ | ⟨_, hj⟩
      · exact ⟨P.cls.length, rfl, by simp [Pg.count]⟩
      · obtain ⟨c, h1, h2⟩ := h.cl j u hj hs
        exact ⟨c, h1, by simp [Pg.count]; omega⟩
theorem Bd.move {P : Pg τ γ} (h : Bd P) (hla : ∀ fr i now ws g k, (Y.stp fr i now ws g k).la.length ≤ 1) (th op arg data : Int) : Bd (P.move Y th op arg data).1 := by
  unfold Pg.move
  split
  · exact h
  · rename_i hn
    have hn' : P.n < 65536 := by omega
    split
    · split
      · exact h.count hn'
      · rename_i t ht
        split
        · unfold Pg.step
          split
          · exact h.count hn'
          · rename_i k hk
            exact h.stepE ht (by rw [hk]; rfl) _ _ (hla _ _ _ _ _ _) hn'
        · split
          · exact h.count hn'
          · exact h.begins _ _ _ _ hn'
    · exact h.count hn'
def Pg.play (Y : Sys τ γ) (P : Pg τ γ) (ms : List (Int × Int × Int × Int)) : Pg τ γ := ms.foldl (fun P m => (P.move Y m.1 m.2.1 m.2.2.1 m.2.2.2).1) P
theorem stepE_n (P : Pg τ γ) (i : Nat) (t : Pt τ) (now : Int) (e : Ef τ γ) : (P.stepE i t now e).n = P.n := by unfold Pg.stepE; split <;> rfl
theorem stepE_pts (P : Pg τ γ) (i : Nat) (t : Pt τ) (now : Int) (e : Ef τ γ) : (P.stepE i t now e).pts.length = P.pts.length := by unfold Pg.stepE; split <;> simp
theorem move_pts (P : Pg τ γ) (th op arg data : Int) : (P.move Y th op arg data).1.pts.length = P.pts.length := by
  unfold Pg.move
  split
  · rfl
  · split
    · split
      · rfl
      · split
        · unfold Pg.step
          split
          · rfl
          · exact stepE_pts _ _ _ _ _
        · split
          · rfl
          · unfold Pg.begins
            split
            · rfl
            · simp [Pg.count]
    · rfl
theorem move_n (P : Pg τ γ) (h : P.n < 65536) (th op arg data : Int) : (P.move Y th op arg data).1.n = P.n + 1 := by
  unfold Pg.move
  rw [if_neg (by omega)]
  split
  · split
    · rfl
    · split
      · unfold Pg.step
        split
        · rfl
        · rw [stepE_n]; rfl
      · split
        · rfl
        · unfold Pg.begins
          split <;> rfl
  · rfl
end
end Go.Proofs.YtnapnhmmopajfaaGreat.Gm
