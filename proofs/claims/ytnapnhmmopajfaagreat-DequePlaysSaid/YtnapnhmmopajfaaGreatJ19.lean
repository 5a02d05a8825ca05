import Derived.Test.YtnapnhmmopajfaaGreatJ18
/-
  THE DEQUE's TASKS: work, one step of a task, case by case; the contract StepOk.
-/
namespace Go.Proofs.YtnapnhmmopajfaaGreat.Dm
open Go.RowKit Mr Me Ma Gm
set_option linter.unusedVariables false
set_option linter.unusedSimpArgs false
set_option maxRecDepth 100000
def Ok (i n : Nat) : Dt → Prop
  | .push nx _ b => i = 0 ∧ 1 ≤ nx ∧ nx ≤ 4 ∧ (2 ≤ nx → 0 ≤ b ∧ b ≤ n)
  | .take nx l t _ => i = 0 ∧ 1 ≤ nx ∧ nx ≤ 7 ∧ (2 ≤ nx → -1 ≤ l ∧ l ≤ n) ∧ (4 ≤ nx → 0 ≤ t ∧ t ≤ n) ∧ (nx = 5 → t ≤ l)
  | .steal nx t _ => 1 ≤ nx ∧ nx ≤ 4 ∧ (2 ≤ nx → 0 ≤ t ∧ t ≤ n)
structure Iv (r : Nat) (P : Pg Dt Lw) : Prop where
  len : P.ws.length = 2 + r
  r1 : 1 ≤ r
  r2 : r ≤ 256
  top : 0 ≤ rd P.ws 0 ∧ rd P.ws 0 ≤ P.n
  bot : ∃ b : Int, rd P.ws 1 = nU b ∧ -1 ≤ b ∧ b ≤ P.n ∧ (b = -1 → ∃ t0 nx tt v, P.pts[0]? = some t0 ∧ t0.tk = some (.take nx (-1) tt v) ∧ 3 ≤ nx)
  tsk : ∀ i t k, P.pts[i]? = some t → t.tk = some k → Ok i P.n k
theorem w64_nU (b : Int) (h1 : -1 ≤ b) (h2 : b ≤ 1000000) : wrap64 (nU b) = b := by
  unfold nU
  by_cases h : b < 0
  · obtain rfl : b = -1 := by omega
    have e : IntKind.u64.wrap (-1) = 18446744073709551615 := by show (-1 : Int) % 18446744073709551616 = _; omega
    rw [e]; unfold wrap64; omega
  · have e : IntKind.u64.wrap b = b := by show b % 18446744073709551616 = b; omega
    rw [e]; unfold wrap64; omega
theorem w64_id (b : Int) (h1 : 0 ≤ b) (h2 : b ≤ 1000000) : wrap64 b = b := by unfold wrap64; omega
theorem len1 {α β : Type} {a : List α} {b : List β} (x : β) (h : a.length ≤ b.length) : a.length ≤ (b ++ [x]).length := by rw [List.length_append]; omega
theorem len2 {α β : Type} {a : List α} {b : List β} (y : α) (x : β) (h : a.length ≤ b.length) : (a ++ [y]).length ≤ (b ++ [x]).length := by simp only [List.length_append, List.length_cons, List.length_nil]; omega
section
variable {W0 : World} {U0 S0 X0 : Nat → Prop} {p : Ph} {i : Nat} {now : Int} {X : Nat → Obj → Prop} {s : Ss} {W : World} {sp : Bool}
theorem foldS {s s' : Ss} {ths' : List Th} {cls' : List Cl} {ws' : List Int} {lg' : List Acc} (h1 : s'.ths = ths') (h2 : s'.cls = cls') (h3 : s'.ws = ws') (h4 : s'.lg = lg') (h5 : s'.n = s.n) (h6 : s'.shs = s.shs) : s' = { s with ths := ths', cls := cls', ws := ws', lg := lg', mv := s'.mv, ah := s'.ah } := by
  cases s; cases s'; simp only at *; subst h1 h2 h3 h4 h5 h6; rfl
theorem foldD {s s' : Ss} {ths' : List Th} {cls' : List Cl} {ws' : List Int} {lg' : List Acc} (h : D W0 U0 S0 X0 p i now X sp s' W) (h1 : s'.ths = ths') (h2 : s'.cls = cls') (h3 : s'.ws = ws') (h4 : s'.lg = lg') (h5 : s'.n = s.n) (h6 : s'.shs = s.shs) : D W0 U0 S0 X0 p i now X sp { s with ths := ths', cls := cls', ws := ws', lg := lg', mv := s'.mv, ah := s'.ah } W := by
  rw [← foldS (s := s) h1 h2 h3 h4 h5 h6]; exact h
/-- Work, by the contract of the task's own method. -/
theorem wk {va a : Value} {k : Dt} {b f : Nat} {nv : Value} {cs : Array Value} {ty' : TypeId} {fr : Bool} {Q : World → Prop} {r : Bool} (hv : va = .iface (ty k) (.pointer (some ⟨b, 0, none⟩))) (h : D W0 U0 S0 X0 p i now X false s W) (hX : X b (.cells cs ty' (0, 0))) (h0 : cs[0]? = some .nilFunc) (h1 : cs[1]? = some (fnv f b)) (es : ∀ args w, (callFunc f args).run Tryz.prog w = .ok (.enter f args) w)
    (C : Calls Tryz.prog f #[.pointer (some ⟨b, 0, none⟩), a] W fun e w' => e = .returned (.tuple #[]) ∧ Q w') (hq : ∀ w', Q w' → w'.cell? ⟨b, 1, none⟩ = some nv) (hr : (nv = .nilFunc ∧ r = true) ∨ (∃ g, nv = fnv g b ∧ r = false)) :
    Calls Tryz.prog 36 #[va, .bool fr, a] W fun e w' => e = .returned (.bool r) ∧ Q w' := by
  subst hv
  have hh := h.at hX
  have c0 := (cell_at hh 0).trans h0
  have c1 := (cell_at hh 1).trans h1
  exact work_d k b f fr c0 c1 (course_step c1 es (C.mono fun e w' ⟨e1, hQ⟩ => ⟨e1, hq w' hQ, hQ⟩) hr)
theorem cell1 {X : Nat → Obj → Prop} {b : Nat} {cs : Array Value} {t : TypeId} {nv : Value} (h : D W0 U0 S0 X0 p i now X sp s W) (hX : X b (.cells cs t (0, 0))) (h1 : cs[1]? = some nv) : W.cell? ⟨b, 1, none⟩ = some nv := (cell_at (h.at hX) 1).trans h1
end
/-- What every case is given. -/
structure Gv (r bc bl : Nat) (bt : Nat → Nat) (P : Pg Dt Lw) (i : Nat) (t : Pt Dt) (k : Dt) (tv : Nat → Value) (X : Nat → Obj → Prop) (W0 : World) (U0 S0 X0 : Nat → Prop) (p : Ph) (ths : List Th) (n : Int) (shs : List Sh) (mv : Int) (ah : List Int) (W1 : World) (c : Nat) (cl : Cl) : Prop where
  iv : Iv r P
  bd : Bd P
  lt : P.n < 65536
  ht : P.pts[i]? = some t
  hk : t.tk = some k
  ats : AtB r bc bl bt (tkF P.pts) P.g tv X
  xx : ∀ k o, X k o → X0 k
  th : ths[i]? = some ⟨tv i, false, t.call, t.ak, t.av⟩
  ahl : ah.length ≤ P.lg.length
  call : t.call = c
  cl : P.cls[c]? = some cl
  d : D W0 U0 S0 X0 p i (P.n : Int) X false ⟨ths, n, P.cls, shs, P.ws, mv, P.lg, ah⟩ W1
def Done (r bc cs c1 c2 : Nat) (P : Pg Dt Lw) (i : Nat) (t : Pt Dt) (tv : Nat → Value) (W0 : World) (U0 S0 X0 : Nat → Prop) (p : Ph) (s : Ss) (c : Nat) (ef : Df) (e : Ending) (w' : World) : Prop :=
  e = .returned (.bool ef.tk.isNone) ∧ ∃ X' sp' mv' ah', D W0 U0 S0 X0 p i (P.n : Int) X' sp' { s with ths := s.ths.set i ⟨tv i, false, t.call, (told t.ak t.av ef.tl).1, (told t.ak t.av ef.tl).2⟩, cls := setP s.cls c ef.pt, ws := ef.ws, lg := s.lg ++ ef.la, mv := mv', ah := ah' } w' ∧
        ah'.length ≤ (P.lg ++ ef.la).length ∧ (dqL r bc cs c1 c2).at_ (upd (tkF P.pts) i ef.tk) ef.g (upd tv i (if ef.tk.isNone = true then .nilIface else tv i)) X'
section
variable {r bc bl cs c1 c2 : Nat} {bt : Nat → Nat} {P : Pg Dt Lw} {i : Nat} {t : Pt Dt} {tv : Nat → Value} {X : Nat → Obj → Prop} {W0 : World} {U0 S0 X0 : Nat → Prop} {p : Ph} {ths : List Th} {n : Int} {shs : List Sh} {mv : Int} {ah : List Int} {W1 : World} {c : Nat} {cl : Cl}
theorem Gv.roomy {k : Dt} (G : Gv r bc bl bt P i t k tv X W0 U0 S0 X0 p ths n shs mv ah W1 c cl) : Me.Roomy P.lg ah := by
  have h1 := G.bd.lg
  have h2 := G.lt
  have h3 := G.ahl
  constructor <;> omega
theorem Gv.r0 {k : Dt} (G : Gv r bc bl bt P i t k tv X W0 U0 S0 X0 p ths n shs mv ah W1 c cl) : wrap64 (rd P.ws 0) = rd P.ws 0 ∧ 0 ≤ rd P.ws 0 ∧ rd P.ws 0 ≤ 65536 := by
  obtain ⟨h1, h2⟩ := G.iv.top
  have h3 := G.lt
  exact ⟨w64_id _ h1 (by omega), h1, by omega⟩
theorem Gv.r1 {k : Dt} (G : Gv r bc bl bt P i t k tv X W0 U0 S0 X0 p ths n shs mv ah W1 c cl) : -1 ≤ wrap64 (rd P.ws 1) ∧ wrap64 (rd P.ws 1) ≤ 65536 := by
  obtain ⟨b, h1, h2, h4, _⟩ := G.iv.bot
  have h3 := G.lt
  rw [h1, w64_nU b h2 (by omega)]
  omega
set_option maxHeartbeats 1000000 in
theorem w_push1 {v b : Int} (G : Gv r bc bl bt P i t (.push 1 v b) tv X W0 U0 S0 X0 p ths n shs mv ah W1 c cl)  :
    Calls Tryz.prog 36 #[tv i, .bool t.fr, .pointer (some ⟨p.bd, 0, none⟩)] W1 (Done r bc cs c1 c2 P i t tv W0 U0 S0 X0 p ⟨ths, n, P.cls, shs, P.ws, mv, P.lg, ah⟩ c ⟨P.ws, [ldA i P.n 1 P.ws], P.g, some (.push 2 v (wrap64 (rd P.ws 1))), none, none⟩) := by
  have hki : tkF P.pts i = some (.push 1 v b) := (tkF_at G.ht).trans G.hk
  obtain ⟨b1, b2, b3, b4⟩ := G.ats.busy i _ hki
  have q0 : X0 (bt i) ∨ W0.heap.size ≤ bt i := .inl (G.xx _ _ b2)
  have qc : X0 bc ∨ W0.heap.size ≤ bc := .inl (G.xx _ _ G.ats.com)
  have hok := G.iv.tsk i t _ G.ht G.hk
  simp only [Ok] at hok
  have g0 := G.r0
  have g1 := G.r1
  have g2 := G.lt
  have g3 := G.iv.r2
  have q1 : -1 ≤ wrap64 (rd P.ws 0) ∧ wrap64 (rd P.ws 0) ≤ 1000000 := ⟨by omega, by omega⟩
  have q2 : -1 ≤ wrap64 (rd P.ws 1) ∧ wrap64 (rd P.ws 1) ≤ 1000000 := ⟨by omega, by omega⟩
  refine (wk (r := false) b1 G.d b2 rfl rfl (enters_of Tryz.func48 (by kernel_rfl) rfl) (push1 G.d G.roomy b2 G.ats.com b3 q0 G.iv.len ) (fun w' h' => cell1 h' (.inl ⟨rfl, rfl⟩) rfl) (.inr ⟨_, rfl, rfl⟩)).mono ?_
  rintro e w' ⟨rfl, hD'⟩
  exact ⟨rfl, _, true, _, _, foldD hD' (set_self G.th).symm rfl rfl rfl rfl rfl, len1 _ G.ahl, (G.ats.go (k' := (.push 2 v (wrap64 (rd P.ws 1)))) hki rfl).at_⟩
set_option maxHeartbeats 1000000 in
theorem w_push2f {v b : Int} (G : Gv r bc bl bt P i t (.push 2 v b) tv X W0 U0 S0 X0 p ths n shs mv ah W1 c cl) (hy : (r : Int) ≤ b - wrap64 (rd P.ws 0)) :
    Calls Tryz.prog 36 #[tv i, .bool t.fr, .pointer (some ⟨p.bd, 0, none⟩)] W1 (Done r bc cs c1 c2 P i t tv W0 U0 S0 X0 p ⟨ths, n, P.cls, shs, P.ws, mv, P.lg, ah⟩ c ⟨P.ws, [ldA i P.n 0 P.ws], P.g, none, some P.n, some (4, 0)⟩) := by
  have hki : tkF P.pts i = some (.push 2 v b) := (tkF_at G.ht).trans G.hk
  obtain ⟨b1, b2, b3, b4⟩ := G.ats.busy i _ hki
  have q0 : X0 (bt i) ∨ W0.heap.size ≤ bt i := .inl (G.xx _ _ b2)
  have qc : X0 bc ∨ W0.heap.size ≤ bc := .inl (G.xx _ _ G.ats.com)
  have hok := G.iv.tsk i t _ G.ht G.hk
  simp only [Ok] at hok
  have g0 := G.r0
  have g1 := G.r1
  have g2 := G.lt
  have g3 := G.iv.r2
  have q1 : -1 ≤ wrap64 (rd P.ws 0) ∧ wrap64 (rd P.ws 0) ≤ 1000000 := ⟨by omega, by omega⟩
  have q2 : -1 ≤ wrap64 (rd P.ws 1) ∧ wrap64 (rd P.ws 1) ≤ 1000000 := ⟨by omega, by omega⟩
  refine (wk (r := true) b1 G.d b2 rfl rfl (enters_of Tryz.func61 (by kernel_rfl) rfl) (push2f G.d G.roomy b2 G.ats.com b3 q0 G.iv.len ⟨by omega, by omega⟩ q1 hy _ G.th c G.call cl G.cl) (fun w' h' => cell1 h' (.inl ⟨rfl, rfl⟩) rfl) (.inl ⟨rfl, rfl⟩)).mono ?_
  rintro e w' ⟨rfl, hD'⟩
  exact ⟨rfl, _, true, _, _, foldD hD' rfl (setP_some G.cl _) rfl rfl rfl rfl, len1 _ G.ahl, (G.ats.fin hki _).at_⟩
set_option maxHeartbeats 1000000 in
theorem w_push2n {v b : Int} (G : Gv r bc bl bt P i t (.push 2 v b) tv X W0 U0 S0 X0 p ths n shs mv ah W1 c cl) (hy : ¬ (r : Int) ≤ b - wrap64 (rd P.ws 0)) :
    Calls Tryz.prog 36 #[tv i, .bool t.fr, .pointer (some ⟨p.bd, 0, none⟩)] W1 (Done r bc cs c1 c2 P i t tv W0 U0 S0 X0 p ⟨ths, n, P.cls, shs, P.ws, mv, P.lg, ah⟩ c ⟨P.ws, [ldA i P.n 0 P.ws], P.g, some (.push 3 v b), none, none⟩) := by
  have hki : tkF P.pts i = some (.push 2 v b) := (tkF_at G.ht).trans G.hk
  obtain ⟨b1, b2, b3, b4⟩ := G.ats.busy i _ hki
  have q0 : X0 (bt i) ∨ W0.heap.size ≤ bt i := .inl (G.xx _ _ b2)
  have qc : X0 bc ∨ W0.heap.size ≤ bc := .inl (G.xx _ _ G.ats.com)
  have hok := G.iv.tsk i t _ G.ht G.hk
  simp only [Ok] at hok
  have g0 := G.r0
  have g1 := G.r1
  have g2 := G.lt
  have g3 := G.iv.r2
  have q1 : -1 ≤ wrap64 (rd P.ws 0) ∧ wrap64 (rd P.ws 0) ≤ 1000000 := ⟨by omega, by omega⟩
  have q2 : -1 ≤ wrap64 (rd P.ws 1) ∧ wrap64 (rd P.ws 1) ≤ 1000000 := ⟨by omega, by omega⟩
  refine (wk (r := false) b1 G.d b2 rfl rfl (enters_of Tryz.func61 (by kernel_rfl) rfl) (push2n G.d G.roomy b2 G.ats.com b3 q0 G.iv.len ⟨by omega, by omega⟩ q1 hy) (fun w' h' => cell1 h' (.inl ⟨rfl, rfl⟩) rfl) (.inr ⟨_, rfl, rfl⟩)).mono ?_
  rintro e w' ⟨rfl, hD'⟩
  exact ⟨rfl, _, true, _, _, foldD hD' (set_self G.th).symm rfl rfl rfl rfl rfl, len1 _ G.ahl, (G.ats.go (k' := (.push 3 v b)) hki rfl).at_⟩
set_option maxHeartbeats 1000000 in
theorem w_push3 {v : Int} {m : Nat} (G : Gv r bc bl bt P i t (.push 3 v (m : Int)) tv X W0 U0 S0 X0 p ths n shs mv ah W1 c cl)  :
    Calls Tryz.prog 36 #[tv i, .bool t.fr, .pointer (some ⟨p.bd, 0, none⟩)] W1 (Done r bc cs c1 c2 P i t tv W0 U0 S0 X0 p ⟨ths, n, P.cls, shs, P.ws, mv, P.lg, ah⟩ c ⟨P.ws.set (cel r (m : Int)) (nU v), [stA i P.n (cel r (m : Int)) (nU v)], P.g, some (.push 4 v (m : Int)), none, none⟩) := by
  have hki : tkF P.pts i = some (.push 3 v (m : Int)) := (tkF_at G.ht).trans G.hk
  obtain ⟨b1, b2, b3, b4⟩ := G.ats.busy i _ hki
  have q0 : X0 (bt i) ∨ W0.heap.size ≤ bt i := .inl (G.xx _ _ b2)
  have qc : X0 bc ∨ W0.heap.size ≤ bc := .inl (G.xx _ _ G.ats.com)
  have hok := G.iv.tsk i t _ G.ht G.hk
  simp only [Ok] at hok
  have g0 := G.r0
  have g1 := G.r1
  have g2 := G.lt
  have g3 := G.iv.r2
  have q1 : -1 ≤ wrap64 (rd P.ws 0) ∧ wrap64 (rd P.ws 0) ≤ 1000000 := ⟨by omega, by omega⟩
  have q2 : -1 ≤ wrap64 (rd P.ws 1) ∧ wrap64 (rd P.ws 1) ≤ 1000000 := ⟨by omega, by omega⟩
  refine (wk (r := false) b1 G.d b2 rfl rfl (enters_of Tryz.func73 (by kernel_rfl) rfl) (push3 G.d G.roomy b2 G.ats.com b3 q0 G.iv.len G.iv.r1 (by omega) (by omega)) (fun w' h' => cell1 h' (.inl ⟨rfl, rfl⟩) rfl) (.inr ⟨_, rfl, rfl⟩)).mono ?_
  rintro e w' ⟨rfl, hD'⟩
  exact ⟨rfl, _, true, _, _, foldD hD' (set_self G.th).symm rfl rfl rfl rfl rfl, len2 _ _ G.ahl, (G.ats.go (k' := (.push 4 v (m : Int))) hki rfl).at_⟩
set_option maxHeartbeats 1000000 in
theorem w_push4 {v b : Int} (G : Gv r bc bl bt P i t (.push 4 v b) tv X W0 U0 S0 X0 p ths n shs mv ah W1 c cl)  :
    Calls Tryz.prog 36 #[tv i, .bool t.fr, .pointer (some ⟨p.bd, 0, none⟩)] W1 (Done r bc cs c1 c2 P i t tv W0 U0 S0 X0 p ⟨ths, n, P.cls, shs, P.ws, mv, P.lg, ah⟩ c ⟨P.ws.set 1 (nU (b + 1)), [stA i P.n 1 (nU (b + 1))], P.g, none, some P.n, some (1, 0)⟩) := by
  have hki : tkF P.pts i = some (.push 4 v b) := (tkF_at G.ht).trans G.hk
  obtain ⟨b1, b2, b3, b4⟩ := G.ats.busy i _ hki
  have q0 : X0 (bt i) ∨ W0.heap.size ≤ bt i := .inl (G.xx _ _ b2)
  have qc : X0 bc ∨ W0.heap.size ≤ bc := .inl (G.xx _ _ G.ats.com)
  have hok := G.iv.tsk i t _ G.ht G.hk
  simp only [Ok] at hok
  have g0 := G.r0
  have g1 := G.r1
  have g2 := G.lt
  have g3 := G.iv.r2
  have q1 : -1 ≤ wrap64 (rd P.ws 0) ∧ wrap64 (rd P.ws 0) ≤ 1000000 := ⟨by omega, by omega⟩
  have q2 : -1 ≤ wrap64 (rd P.ws 1) ∧ wrap64 (rd P.ws 1) ≤ 1000000 := ⟨by omega, by omega⟩
  refine (wk (r := true) b1 G.d b2 rfl rfl (enters_of Tryz.func83 (by kernel_rfl) rfl) (push4 G.d G.roomy b2 G.ats.com b3 q0 G.iv.len ⟨by omega, by omega⟩ _ G.th c G.call cl G.cl) (fun w' h' => cell1 h' (.inl ⟨rfl, rfl⟩) rfl) (.inl ⟨rfl, rfl⟩)).mono ?_
  rintro e w' ⟨rfl, hD'⟩
  exact ⟨rfl, _, true, _, _, foldD hD' rfl (setP_some G.cl _) rfl rfl rfl rfl, len2 _ _ G.ahl, (G.ats.fin hki _).at_⟩
set_option maxHeartbeats 1000000 in
theorem w_take1 {l tt v : Int} (G : Gv r bc bl bt P i t (.take 1 l tt v) tv X W0 U0 S0 X0 p ths n shs mv ah W1 c cl)  :
    Calls Tryz.prog 36 #[tv i, .bool t.fr, .pointer (some ⟨p.bd, 0, none⟩)] W1 (Done r bc cs c1 c2 P i t tv W0 U0 S0 X0 p ⟨ths, n, P.cls, shs, P.ws, mv, P.lg, ah⟩ c ⟨P.ws, [ldA i P.n 1 P.ws], P.g, some (.take 2 (wrap64 (rd P.ws 1) - 1) tt v), none, none⟩) := by
  have hki : tkF P.pts i = some (.take 1 l tt v) := (tkF_at G.ht).trans G.hk
  obtain ⟨b1, b2, b3, b4⟩ := G.ats.busy i _ hki
  have q0 : X0 (bt i) ∨ W0.heap.size ≤ bt i := .inl (G.xx _ _ b2)
  have qc : X0 bc ∨ W0.heap.size ≤ bc := .inl (G.xx _ _ G.ats.com)
  have hok := G.iv.tsk i t _ G.ht G.hk
  simp only [Ok] at hok
  have g0 := G.r0
  have g1 := G.r1
  have g2 := G.lt
  have g3 := G.iv.r2
  have q1 : -1 ≤ wrap64 (rd P.ws 0) ∧ wrap64 (rd P.ws 0) ≤ 1000000 := ⟨by omega, by omega⟩
  have q2 : -1 ≤ wrap64 (rd P.ws 1) ∧ wrap64 (rd P.ws 1) ≤ 1000000 := ⟨by omega, by omega⟩
  refine (wk (r := false) b1 G.d b2 rfl rfl (enters_of Tryz.func49 (by kernel_rfl) rfl) (take1 G.d G.roomy b2 G.ats.com b3 q0 G.iv.len q2) (fun w' h' => cell1 h' (.inl ⟨rfl, rfl⟩) rfl) (.inr ⟨_, rfl, rfl⟩)).mono ?_
  rintro e w' ⟨rfl, hD'⟩
  exact ⟨rfl, _, true, _, _, foldD hD' (set_self G.th).symm rfl rfl rfl rfl rfl, len1 _ G.ahl, (G.ats.go (k' := (.take 2 (wrap64 (rd P.ws 1) - 1) tt v)) hki rfl).at_⟩
set_option maxHeartbeats 1000000 in
theorem w_take2 {l tt v : Int} (G : Gv r bc bl bt P i t (.take 2 l tt v) tv X W0 U0 S0 X0 p ths n shs mv ah W1 c cl)  :
    Calls Tryz.prog 36 #[tv i, .bool t.fr, .pointer (some ⟨p.bd, 0, none⟩)] W1 (Done r bc cs c1 c2 P i t tv W0 U0 S0 X0 p ⟨ths, n, P.cls, shs, P.ws, mv, P.lg, ah⟩ c ⟨P.ws.set 1 (nU l), [stA i P.n 1 (nU l)], some (P.n, l), some (.take 3 l tt v), some P.n, none⟩) := by
  have hki : tkF P.pts i = some (.take 2 l tt v) := (tkF_at G.ht).trans G.hk
  obtain ⟨b1, b2, b3, b4⟩ := G.ats.busy i _ hki
  have q0 : X0 (bt i) ∨ W0.heap.size ≤ bt i := .inl (G.xx _ _ b2)
  have qc : X0 bc ∨ W0.heap.size ≤ bc := .inl (G.xx _ _ G.ats.com)
  have hok := G.iv.tsk i t _ G.ht G.hk
  simp only [Ok] at hok
  have g0 := G.r0
  have g1 := G.r1
  have g2 := G.lt
  have g3 := G.iv.r2
  have q1 : -1 ≤ wrap64 (rd P.ws 0) ∧ wrap64 (rd P.ws 0) ≤ 1000000 := ⟨by omega, by omega⟩
  have q2 : -1 ≤ wrap64 (rd P.ws 1) ∧ wrap64 (rd P.ws 1) ≤ 1000000 := ⟨by omega, by omega⟩
  refine (wk (r := false) b1 G.d b2 rfl rfl (enters_of Tryz.func62 (by kernel_rfl) rfl) (take2 G.d G.roomy b2 G.ats.com b3 q0 G.iv.len qc _ G.th c G.call cl G.cl) (fun w' h' => by obtain ⟨bl1, _, _, _, h1⟩ := h'; exact cell1 h1 (.inl ⟨rfl, rfl⟩) rfl) (.inr ⟨_, rfl, rfl⟩)).mono ?_
  rintro e w' ⟨rfl, bl1, hz1, hz2, hz3, hD'⟩
  exact ⟨rfl, _, true, _, _, foldD hD' (set_self G.th).symm (setP_some G.cl _) rfl rfl rfl rfl, len2 _ _ G.ahl, ((G.ats.lower hz2 hz3 _ _).go (k' := (.take 3 l tt v)) hki rfl).at_⟩
set_option maxHeartbeats 1000000 in
theorem w_take3y {l tt v : Int} (G : Gv r bc bl bt P i t (.take 3 l tt v) tv X W0 U0 S0 X0 p ths n shs mv ah W1 c cl) (hy : l < wrap64 (rd P.ws 0)) :
    Calls Tryz.prog 36 #[tv i, .bool t.fr, .pointer (some ⟨p.bd, 0, none⟩)] W1 (Done r bc cs c1 c2 P i t tv W0 U0 S0 X0 p ⟨ths, n, P.cls, shs, P.ws, mv, P.lg, ah⟩ c ⟨P.ws, [ldA i P.n 0 P.ws], P.g, some (.take 4 l (wrap64 (rd P.ws 0)) v), some P.n, some (3, 0)⟩) := by
  have hki : tkF P.pts i = some (.take 3 l tt v) := (tkF_at G.ht).trans G.hk
  obtain ⟨b1, b2, b3, b4⟩ := G.ats.busy i _ hki
  have q0 : X0 (bt i) ∨ W0.heap.size ≤ bt i := .inl (G.xx _ _ b2)
  have qc : X0 bc ∨ W0.heap.size ≤ bc := .inl (G.xx _ _ G.ats.com)
  have hok := G.iv.tsk i t _ G.ht G.hk
  simp only [Ok] at hok
  have g0 := G.r0
  have g1 := G.r1
  have g2 := G.lt
  have g3 := G.iv.r2
  have q1 : -1 ≤ wrap64 (rd P.ws 0) ∧ wrap64 (rd P.ws 0) ≤ 1000000 := ⟨by omega, by omega⟩
  have q2 : -1 ≤ wrap64 (rd P.ws 1) ∧ wrap64 (rd P.ws 1) ≤ 1000000 := ⟨by omega, by omega⟩
  refine (wk (r := false) b1 G.d b2 rfl rfl (enters_of Tryz.func77 (by kernel_rfl) rfl) (take3y G.d G.roomy b2 G.ats.com b3 q0 G.iv.len hy _ G.th c G.call cl G.cl) (fun w' h' => cell1 h' (.inl ⟨rfl, rfl⟩) rfl) (.inr ⟨_, rfl, rfl⟩)).mono ?_
  rintro e w' ⟨rfl, hD'⟩
  exact ⟨rfl, _, true, _, _, foldD hD' rfl (setP_some G.cl _) rfl rfl rfl rfl, len1 _ G.ahl, (G.ats.go (k' := (.take 4 l (wrap64 (rd P.ws 0)) v)) hki rfl).at_⟩
set_option maxHeartbeats 1000000 in
theorem w_take3n {l tt v : Int} (G : Gv r bc bl bt P i t (.take 3 l tt v) tv X W0 U0 S0 X0 p ths n shs mv ah W1 c cl) (hy : ¬ l < wrap64 (rd P.ws 0)) :
    Calls Tryz.prog 36 #[tv i, .bool t.fr, .pointer (some ⟨p.bd, 0, none⟩)] W1 (Done r bc cs c1 c2 P i t tv W0 U0 S0 X0 p ⟨ths, n, P.cls, shs, P.ws, mv, P.lg, ah⟩ c ⟨P.ws, [ldA i P.n 0 P.ws], P.g, some (.take 5 l (wrap64 (rd P.ws 0)) v), none, none⟩) := by
  have hki : tkF P.pts i = some (.take 3 l tt v) := (tkF_at G.ht).trans G.hk
  obtain ⟨b1, b2, b3, b4⟩ := G.ats.busy i _ hki
  have q0 : X0 (bt i) ∨ W0.heap.size ≤ bt i := .inl (G.xx _ _ b2)
  have qc : X0 bc ∨ W0.heap.size ≤ bc := .inl (G.xx _ _ G.ats.com)
  have hok := G.iv.tsk i t _ G.ht G.hk
  simp only [Ok] at hok
  have g0 := G.r0
  have g1 := G.r1
  have g2 := G.lt
  have g3 := G.iv.r2
  have q1 : -1 ≤ wrap64 (rd P.ws 0) ∧ wrap64 (rd P.ws 0) ≤ 1000000 := ⟨by omega, by omega⟩
  have q2 : -1 ≤ wrap64 (rd P.ws 1) ∧ wrap64 (rd P.ws 1) ≤ 1000000 := ⟨by omega, by omega⟩
  refine (wk (r := false) b1 G.d b2 rfl rfl (enters_of Tryz.func77 (by kernel_rfl) rfl) (take3n G.d G.roomy b2 G.ats.com b3 q0 G.iv.len hy) (fun w' h' => cell1 h' (.inl ⟨rfl, rfl⟩) rfl) (.inr ⟨_, rfl, rfl⟩)).mono ?_
  rintro e w' ⟨rfl, hD'⟩
  exact ⟨rfl, _, true, _, _, foldD hD' (set_self G.th).symm rfl rfl rfl rfl rfl, len1 _ G.ahl, (G.ats.go (k' := (.take 5 l (wrap64 (rd P.ws 0)) v)) hki rfl).at_⟩
set_option maxHeartbeats 1000000 in
theorem w_take4 {l tt v : Int} (G : Gv r bc bl bt P i t (.take 4 l tt v) tv X W0 U0 S0 X0 p ths n shs mv ah W1 c cl)  :
    Calls Tryz.prog 36 #[tv i, .bool t.fr, .pointer (some ⟨p.bd, 0, none⟩)] W1 (Done r bc cs c1 c2 P i t tv W0 U0 S0 X0 p ⟨ths, n, P.cls, shs, P.ws, mv, P.lg, ah⟩ c ⟨P.ws.set 1 (nU tt), [stA i P.n 1 (nU tt)], none, none, none, none⟩) := by
  have hki : tkF P.pts i = some (.take 4 l tt v) := (tkF_at G.ht).trans G.hk
  obtain ⟨b1, b2, b3, b4⟩ := G.ats.busy i _ hki
  have q0 : X0 (bt i) ∨ W0.heap.size ≤ bt i := .inl (G.xx _ _ b2)
  have qc : X0 bc ∨ W0.heap.size ≤ bc := .inl (G.xx _ _ G.ats.com)
  have hok := G.iv.tsk i t _ G.ht G.hk
  simp only [Ok] at hok
  have g0 := G.r0
  have g1 := G.r1
  have g2 := G.lt
  have g3 := G.iv.r2
  have q1 : -1 ≤ wrap64 (rd P.ws 0) ∧ wrap64 (rd P.ws 0) ≤ 1000000 := ⟨by omega, by omega⟩
  have q2 : -1 ≤ wrap64 (rd P.ws 1) ∧ wrap64 (rd P.ws 1) ≤ 1000000 := ⟨by omega, by omega⟩
  refine (wk (r := true) b1 G.d b2 rfl rfl (enters_of Tryz.func88 (by kernel_rfl) rfl) (take4 G.d G.roomy b2 G.ats.com b3 q0 G.iv.len qc) (fun w' h' => cell1 h' (.inl ⟨rfl, rfl⟩) rfl) (.inl ⟨rfl, rfl⟩)).mono ?_
  rintro e w' ⟨rfl, hD'⟩
  exact ⟨rfl, _, true, _, _, foldD hD' (set_self G.th).symm rfl rfl rfl rfl rfl, len2 _ _ G.ahl, (G.ats.wipe.fin hki _).at_⟩
set_option maxHeartbeats 1000000 in
theorem w_take5y {tt v : Int} {m : Nat} (G : Gv r bc bl bt P i t (.take 5 (m : Int) tt v) tv X W0 U0 S0 X0 p ths n shs mv ah W1 c cl) (hy : tt < (m : Int)) :
    Calls Tryz.prog 36 #[tv i, .bool t.fr, .pointer (some ⟨p.bd, 0, none⟩)] W1 (Done r bc cs c1 c2 P i t tv W0 U0 S0 X0 p ⟨ths, n, P.cls, shs, P.ws, mv, P.lg, ah⟩ c ⟨P.ws, [ldA i P.n (cel r (m : Int)) P.ws], none, none, none, some (2, wrap64 (rd P.ws (cel r (m : Int))))⟩) := by
  have hki : tkF P.pts i = some (.take 5 (m : Int) tt v) := (tkF_at G.ht).trans G.hk
  obtain ⟨b1, b2, b3, b4⟩ := G.ats.busy i _ hki
  have q0 : X0 (bt i) ∨ W0.heap.size ≤ bt i := .inl (G.xx _ _ b2)
  have qc : X0 bc ∨ W0.heap.size ≤ bc := .inl (G.xx _ _ G.ats.com)
  have hok := G.iv.tsk i t _ G.ht G.hk
  simp only [Ok] at hok
  have g0 := G.r0
  have g1 := G.r1
  have g2 := G.lt
  have g3 := G.iv.r2
  have q1 : -1 ≤ wrap64 (rd P.ws 0) ∧ wrap64 (rd P.ws 0) ≤ 1000000 := ⟨by omega, by omega⟩
  have q2 : -1 ≤ wrap64 (rd P.ws 1) ∧ wrap64 (rd P.ws 1) ≤ 1000000 := ⟨by omega, by omega⟩
  refine (wk (r := true) b1 G.d b2 rfl rfl (enters_of Tryz.func89 (by kernel_rfl) rfl) (take5y G.d G.roomy b2 G.ats.com b3 q0 G.iv.len G.iv.r1 (by omega) (by omega) hy qc _ G.th) (fun w' h' => cell1 h' (.inl ⟨rfl, rfl⟩) rfl) (.inl ⟨rfl, rfl⟩)).mono ?_
  rintro e w' ⟨rfl, hD'⟩
  exact ⟨rfl, _, true, _, _, foldD hD' rfl rfl rfl rfl rfl rfl, len1 _ G.ahl, (G.ats.wipe.fin hki _).at_⟩
set_option maxHeartbeats 1000000 in
theorem w_take5n {tt v : Int} {m : Nat} (G : Gv r bc bl bt P i t (.take 5 (m : Int) tt v) tv X W0 U0 S0 X0 p ths n shs mv ah W1 c cl) (hy : ¬ tt < (m : Int)) :
    Calls Tryz.prog 36 #[tv i, .bool t.fr, .pointer (some ⟨p.bd, 0, none⟩)] W1 (Done r bc cs c1 c2 P i t tv W0 U0 S0 X0 p ⟨ths, n, P.cls, shs, P.ws, mv, P.lg, ah⟩ c ⟨P.ws, [ldA i P.n (cel r (m : Int)) P.ws], P.g, some (.take 6 (m : Int) tt (wrap64 (rd P.ws (cel r (m : Int))))), none, none⟩) := by
  have hki : tkF P.pts i = some (.take 5 (m : Int) tt v) := (tkF_at G.ht).trans G.hk
  obtain ⟨b1, b2, b3, b4⟩ := G.ats.busy i _ hki
  have q0 : X0 (bt i) ∨ W0.heap.size ≤ bt i := .inl (G.xx _ _ b2)
  have qc : X0 bc ∨ W0.heap.size ≤ bc := .inl (G.xx _ _ G.ats.com)
  have hok := G.iv.tsk i t _ G.ht G.hk
  simp only [Ok] at hok
  have g0 := G.r0
  have g1 := G.r1
  have g2 := G.lt
  have g3 := G.iv.r2
  have q1 : -1 ≤ wrap64 (rd P.ws 0) ∧ wrap64 (rd P.ws 0) ≤ 1000000 := ⟨by omega, by omega⟩
  have q2 : -1 ≤ wrap64 (rd P.ws 1) ∧ wrap64 (rd P.ws 1) ≤ 1000000 := ⟨by omega, by omega⟩
  refine (wk (r := false) b1 G.d b2 rfl rfl (enters_of Tryz.func89 (by kernel_rfl) rfl) (take5n G.d G.roomy b2 G.ats.com b3 q0 G.iv.len G.iv.r1 (by omega) (by omega) hy) (fun w' h' => cell1 h' (.inl ⟨rfl, rfl⟩) rfl) (.inr ⟨_, rfl, rfl⟩)).mono ?_
  rintro e w' ⟨rfl, hD'⟩
  exact ⟨rfl, _, true, _, _, foldD hD' (set_self G.th).symm rfl rfl rfl rfl rfl, len1 _ G.ahl, (G.ats.go (k' := (.take 6 (m : Int) tt (wrap64 (rd P.ws (cel r (m : Int)))))) hki rfl).at_⟩
set_option maxHeartbeats 1000000 in
theorem w_take6y {l v : Int} {m : Nat} (G : Gv r bc bl bt P i t (.take 6 l (m : Int) v) tv X W0 U0 S0 X0 p ths n shs mv ah W1 c cl) (hy : rd P.ws 0 = (m : Int)) :
    Calls Tryz.prog 36 #[tv i, .bool t.fr, .pointer (some ⟨p.bd, 0, none⟩)] W1 (Done r bc cs c1 c2 P i t tv W0 U0 S0 X0 p ⟨ths, n, P.cls, shs, P.ws, mv, P.lg, ah⟩ c ⟨P.ws.set 0 ((m : Int) + 1), [swA i P.n 0 (m : Int) ((m : Int) + 1) (m : Int)], P.g, some (.take 7 l (m : Int) v), none, some (2, v)⟩) := by
  have hki : tkF P.pts i = some (.take 6 l (m : Int) v) := (tkF_at G.ht).trans G.hk
  obtain ⟨b1, b2, b3, b4⟩ := G.ats.busy i _ hki
  have q0 : X0 (bt i) ∨ W0.heap.size ≤ bt i := .inl (G.xx _ _ b2)
  have qc : X0 bc ∨ W0.heap.size ≤ bc := .inl (G.xx _ _ G.ats.com)
  have hok := G.iv.tsk i t _ G.ht G.hk
  simp only [Ok] at hok
  have g0 := G.r0
  have g1 := G.r1
  have g2 := G.lt
  have g3 := G.iv.r2
  have q1 : -1 ≤ wrap64 (rd P.ws 0) ∧ wrap64 (rd P.ws 0) ≤ 1000000 := ⟨by omega, by omega⟩
  have q2 : -1 ≤ wrap64 (rd P.ws 1) ∧ wrap64 (rd P.ws 1) ≤ 1000000 := ⟨by omega, by omega⟩
  refine (wk (r := false) b1 G.d b2 rfl rfl (enters_of Tryz.func97 (by kernel_rfl) rfl) (take6y G.d G.roomy b2 G.ats.com b3 q0 G.iv.len (by omega) hy _ G.th c G.call cl G.cl) (fun w' h' => cell1 h' (.inl ⟨rfl, rfl⟩) rfl) (.inr ⟨_, rfl, rfl⟩)).mono ?_
  rintro e w' ⟨rfl, hD'⟩
  exact ⟨rfl, _, true, _, _, foldD hD' rfl rfl rfl rfl rfl rfl, len2 _ _ G.ahl, (G.ats.go (k' := (.take 7 l (m : Int) v)) hki rfl).at_⟩
set_option maxHeartbeats 1000000 in
theorem w_take6n {l v : Int} {m : Nat} (G : Gv r bc bl bt P i t (.take 6 l (m : Int) v) tv X W0 U0 S0 X0 p ths n shs mv ah W1 c cl) (hy : ¬ rd P.ws 0 = (m : Int)) :
    Calls Tryz.prog 36 #[tv i, .bool t.fr, .pointer (some ⟨p.bd, 0, none⟩)] W1 (Done r bc cs c1 c2 P i t tv W0 U0 S0 X0 p ⟨ths, n, P.cls, shs, P.ws, mv, P.lg, ah⟩ c ⟨P.ws, [swA i P.n 0 (m : Int) ((m : Int) + 1) (rd P.ws 0)], P.g, some (.take 7 l (m : Int) v), some P.n, some (3, 0)⟩) := by
  have hki : tkF P.pts i = some (.take 6 l (m : Int) v) := (tkF_at G.ht).trans G.hk
  obtain ⟨b1, b2, b3, b4⟩ := G.ats.busy i _ hki
  have q0 : X0 (bt i) ∨ W0.heap.size ≤ bt i := .inl (G.xx _ _ b2)
  have qc : X0 bc ∨ W0.heap.size ≤ bc := .inl (G.xx _ _ G.ats.com)
  have hok := G.iv.tsk i t _ G.ht G.hk
  simp only [Ok] at hok
  have g0 := G.r0
  have g1 := G.r1
  have g2 := G.lt
  have g3 := G.iv.r2
  have q1 : -1 ≤ wrap64 (rd P.ws 0) ∧ wrap64 (rd P.ws 0) ≤ 1000000 := ⟨by omega, by omega⟩
  have q2 : -1 ≤ wrap64 (rd P.ws 1) ∧ wrap64 (rd P.ws 1) ≤ 1000000 := ⟨by omega, by omega⟩
  refine (wk (r := false) b1 G.d b2 rfl rfl (enters_of Tryz.func97 (by kernel_rfl) rfl) (take6n G.d G.roomy b2 G.ats.com b3 q0 G.iv.len (by omega) hy _ G.th c G.call cl G.cl) (fun w' h' => cell1 h' (.inl ⟨rfl, rfl⟩) rfl) (.inr ⟨_, rfl, rfl⟩)).mono ?_
  rintro e w' ⟨rfl, hD'⟩
  exact ⟨rfl, _, true, _, _, foldD hD' rfl (setP_some G.cl _) rfl rfl rfl rfl, len1 _ G.ahl, (G.ats.go (k' := (.take 7 l (m : Int) v)) hki rfl).at_⟩
set_option maxHeartbeats 1000000 in
theorem w_take7 {l tt v : Int} (G : Gv r bc bl bt P i t (.take 7 l tt v) tv X W0 U0 S0 X0 p ths n shs mv ah W1 c cl)  :
    Calls Tryz.prog 36 #[tv i, .bool t.fr, .pointer (some ⟨p.bd, 0, none⟩)] W1 (Done r bc cs c1 c2 P i t tv W0 U0 S0 X0 p ⟨ths, n, P.cls, shs, P.ws, mv, P.lg, ah⟩ c ⟨P.ws.set 1 (nU (tt + 1)), [stA i P.n 1 (nU (tt + 1))], none, none, none, none⟩) := by
  have hki : tkF P.pts i = some (.take 7 l tt v) := (tkF_at G.ht).trans G.hk
  obtain ⟨b1, b2, b3, b4⟩ := G.ats.busy i _ hki
  have q0 : X0 (bt i) ∨ W0.heap.size ≤ bt i := .inl (G.xx _ _ b2)
  have qc : X0 bc ∨ W0.heap.size ≤ bc := .inl (G.xx _ _ G.ats.com)
  have hok := G.iv.tsk i t _ G.ht G.hk
  simp only [Ok] at hok
  have g0 := G.r0
  have g1 := G.r1
  have g2 := G.lt
  have g3 := G.iv.r2
  have q1 : -1 ≤ wrap64 (rd P.ws 0) ∧ wrap64 (rd P.ws 0) ≤ 1000000 := ⟨by omega, by omega⟩
  have q2 : -1 ≤ wrap64 (rd P.ws 1) ∧ wrap64 (rd P.ws 1) ≤ 1000000 := ⟨by omega, by omega⟩
  refine (wk (r := true) b1 G.d b2 rfl rfl (enters_of Tryz.func102 (by kernel_rfl) rfl) (take7 G.d G.roomy b2 G.ats.com b3 q0 G.iv.len qc ⟨by omega, by omega⟩) (fun w' h' => cell1 h' (.inl ⟨rfl, rfl⟩) rfl) (.inl ⟨rfl, rfl⟩)).mono ?_
  rintro e w' ⟨rfl, hD'⟩
  exact ⟨rfl, _, true, _, _, foldD hD' (set_self G.th).symm rfl rfl rfl rfl rfl, len2 _ _ G.ahl, (G.ats.wipe.fin hki _).at_⟩
set_option maxHeartbeats 1000000 in
theorem w_steal1 {tt v : Int} (G : Gv r bc bl bt P i t (.steal 1 tt v) tv X W0 U0 S0 X0 p ths n shs mv ah W1 c cl)  :
    Calls Tryz.prog 36 #[tv i, .bool t.fr, .pointer (some ⟨p.bd, 0, none⟩)] W1 (Done r bc cs c1 c2 P i t tv W0 U0 S0 X0 p ⟨ths, n, P.cls, shs, P.ws, mv, P.lg, ah⟩ c ⟨P.ws, [ldA i P.n 0 P.ws], P.g, some (.steal 2 (wrap64 (rd P.ws 0)) v), none, none⟩) := by
  have hki : tkF P.pts i = some (.steal 1 tt v) := (tkF_at G.ht).trans G.hk
  obtain ⟨b1, b2, b3, b4⟩ := G.ats.busy i _ hki
  have q0 : X0 (bt i) ∨ W0.heap.size ≤ bt i := .inl (G.xx _ _ b2)
  have qc : X0 bc ∨ W0.heap.size ≤ bc := .inl (G.xx _ _ G.ats.com)
  have hok := G.iv.tsk i t _ G.ht G.hk
  simp only [Ok] at hok
  have g0 := G.r0
  have g1 := G.r1
  have g2 := G.lt
  have g3 := G.iv.r2
  have q1 : -1 ≤ wrap64 (rd P.ws 0) ∧ wrap64 (rd P.ws 0) ≤ 1000000 := ⟨by omega, by omega⟩
  have q2 : -1 ≤ wrap64 (rd P.ws 1) ∧ wrap64 (rd P.ws 1) ≤ 1000000 := ⟨by omega, by omega⟩
  refine (wk (r := false) b1 G.d b2 rfl rfl (enters_of Tryz.func50 (by kernel_rfl) rfl) (steal1 G.d G.roomy b2 G.ats.com b3 q0 G.iv.len ) (fun w' h' => cell1 h' (.inl ⟨rfl, rfl⟩) rfl) (.inr ⟨_, rfl, rfl⟩)).mono ?_
  rintro e w' ⟨rfl, hD'⟩
  exact ⟨rfl, _, true, _, _, foldD hD' (set_self G.th).symm rfl rfl rfl rfl rfl, len1 _ G.ahl, (G.ats.go (k' := (.steal 2 (wrap64 (rd P.ws 0)) v)) hki rfl).at_⟩
set_option maxHeartbeats 1000000 in
theorem w_steal2f {tt v : Int} (G : Gv r bc bl bt P i t (.steal 2 tt v) tv X W0 U0 S0 X0 p ths n shs mv ah W1 c cl) (hy : wrap64 (rd P.ws 1) - tt ≤ 0) :
    Calls Tryz.prog 36 #[tv i, .bool t.fr, .pointer (some ⟨p.bd, 0, none⟩)] W1 (Done r bc cs c1 c2 P i t tv W0 U0 S0 X0 p ⟨ths, n, P.cls, shs, P.ws, mv, P.lg, ah⟩ c ⟨P.ws, [ldA i P.n 1 P.ws], P.g, none, some P.n, some (3, 0)⟩) := by
  have hki : tkF P.pts i = some (.steal 2 tt v) := (tkF_at G.ht).trans G.hk
  obtain ⟨b1, b2, b3, b4⟩ := G.ats.busy i _ hki
  have q0 : X0 (bt i) ∨ W0.heap.size ≤ bt i := .inl (G.xx _ _ b2)
  have qc : X0 bc ∨ W0.heap.size ≤ bc := .inl (G.xx _ _ G.ats.com)
  have hok := G.iv.tsk i t _ G.ht G.hk
  simp only [Ok] at hok
  have g0 := G.r0
  have g1 := G.r1
  have g2 := G.lt
  have g3 := G.iv.r2
  have q1 : -1 ≤ wrap64 (rd P.ws 0) ∧ wrap64 (rd P.ws 0) ≤ 1000000 := ⟨by omega, by omega⟩
  have q2 : -1 ≤ wrap64 (rd P.ws 1) ∧ wrap64 (rd P.ws 1) ≤ 1000000 := ⟨by omega, by omega⟩
  refine (wk (r := true) b1 G.d b2 rfl rfl (enters_of Tryz.func63 (by kernel_rfl) rfl) (steal2f G.d G.roomy b2 G.ats.com b3 q0 G.iv.len ⟨by omega, by omega⟩ q2 hy _ G.th c G.call cl G.cl) (fun w' h' => cell1 h' (.inl ⟨rfl, rfl⟩) rfl) (.inl ⟨rfl, rfl⟩)).mono ?_
  rintro e w' ⟨rfl, hD'⟩
  exact ⟨rfl, _, true, _, _, foldD hD' rfl (setP_some G.cl _) rfl rfl rfl rfl, len1 _ G.ahl, (G.ats.fin hki _).at_⟩
set_option maxHeartbeats 1000000 in
theorem w_steal2n {tt v : Int} (G : Gv r bc bl bt P i t (.steal 2 tt v) tv X W0 U0 S0 X0 p ths n shs mv ah W1 c cl) (hy : ¬ wrap64 (rd P.ws 1) - tt ≤ 0) :
    Calls Tryz.prog 36 #[tv i, .bool t.fr, .pointer (some ⟨p.bd, 0, none⟩)] W1 (Done r bc cs c1 c2 P i t tv W0 U0 S0 X0 p ⟨ths, n, P.cls, shs, P.ws, mv, P.lg, ah⟩ c ⟨P.ws, [ldA i P.n 1 P.ws], P.g, some (.steal 3 tt v), none, none⟩) := by
  have hki : tkF P.pts i = some (.steal 2 tt v) := (tkF_at G.ht).trans G.hk
  obtain ⟨b1, b2, b3, b4⟩ := G.ats.busy i _ hki
  have q0 : X0 (bt i) ∨ W0.heap.size ≤ bt i := .inl (G.xx _ _ b2)
  have qc : X0 bc ∨ W0.heap.size ≤ bc := .inl (G.xx _ _ G.ats.com)
  have hok := G.iv.tsk i t _ G.ht G.hk
  simp only [Ok] at hok
  have g0 := G.r0
  have g1 := G.r1
  have g2 := G.lt
  have g3 := G.iv.r2
  have q1 : -1 ≤ wrap64 (rd P.ws 0) ∧ wrap64 (rd P.ws 0) ≤ 1000000 := ⟨by omega, by omega⟩
  have q2 : -1 ≤ wrap64 (rd P.ws 1) ∧ wrap64 (rd P.ws 1) ≤ 1000000 := ⟨by omega, by omega⟩
  refine (wk (r := false) b1 G.d b2 rfl rfl (enters_of Tryz.func63 (by kernel_rfl) rfl) (steal2n G.d G.roomy b2 G.ats.com b3 q0 G.iv.len ⟨by omega, by omega⟩ q2 hy) (fun w' h' => cell1 h' (.inl ⟨rfl, rfl⟩) rfl) (.inr ⟨_, rfl, rfl⟩)).mono ?_
  rintro e w' ⟨rfl, hD'⟩
  exact ⟨rfl, _, true, _, _, foldD hD' (set_self G.th).symm rfl rfl rfl rfl rfl, len1 _ G.ahl, (G.ats.go (k' := (.steal 3 tt v)) hki rfl).at_⟩
set_option maxHeartbeats 1000000 in
theorem w_steal3 {v : Int} {m : Nat} (G : Gv r bc bl bt P i t (.steal 3 (m : Int) v) tv X W0 U0 S0 X0 p ths n shs mv ah W1 c cl)  :
    Calls Tryz.prog 36 #[tv i, .bool t.fr, .pointer (some ⟨p.bd, 0, none⟩)] W1 (Done r bc cs c1 c2 P i t tv W0 U0 S0 X0 p ⟨ths, n, P.cls, shs, P.ws, mv, P.lg, ah⟩ c ⟨P.ws, [ldA i P.n (cel r (m : Int)) P.ws], P.g, some (.steal 4 (m : Int) (wrap64 (rd P.ws (cel r (m : Int))))), none, none⟩) := by
  have hki : tkF P.pts i = some (.steal 3 (m : Int) v) := (tkF_at G.ht).trans G.hk
  obtain ⟨b1, b2, b3, b4⟩ := G.ats.busy i _ hki
  have q0 : X0 (bt i) ∨ W0.heap.size ≤ bt i := .inl (G.xx _ _ b2)
  have qc : X0 bc ∨ W0.heap.size ≤ bc := .inl (G.xx _ _ G.ats.com)
  have hok := G.iv.tsk i t _ G.ht G.hk
  simp only [Ok] at hok
  have g0 := G.r0
  have g1 := G.r1
  have g2 := G.lt
  have g3 := G.iv.r2
  have q1 : -1 ≤ wrap64 (rd P.ws 0) ∧ wrap64 (rd P.ws 0) ≤ 1000000 := ⟨by omega, by omega⟩
  have q2 : -1 ≤ wrap64 (rd P.ws 1) ∧ wrap64 (rd P.ws 1) ≤ 1000000 := ⟨by omega, by omega⟩
  refine (wk (r := false) b1 G.d b2 rfl rfl (enters_of Tryz.func78 (by kernel_rfl) rfl) (steal3 G.d G.roomy b2 G.ats.com b3 q0 G.iv.len G.iv.r1 (by omega) (by omega)) (fun w' h' => cell1 h' (.inl ⟨rfl, rfl⟩) rfl) (.inr ⟨_, rfl, rfl⟩)).mono ?_
  rintro e w' ⟨rfl, hD'⟩
  exact ⟨rfl, _, true, _, _, foldD hD' (set_self G.th).symm rfl rfl rfl rfl rfl, len1 _ G.ahl, (G.ats.go (k' := (.steal 4 (m : Int) (wrap64 (rd P.ws (cel r (m : Int)))))) hki rfl).at_⟩
set_option maxHeartbeats 1000000 in
theorem w_steal4y {v : Int} {m : Nat} (G : Gv r bc bl bt P i t (.steal 4 (m : Int) v) tv X W0 U0 S0 X0 p ths n shs mv ah W1 c cl) (hy : rd P.ws 0 = (m : Int)) :
    Calls Tryz.prog 36 #[tv i, .bool t.fr, .pointer (some ⟨p.bd, 0, none⟩)] W1 (Done r bc cs c1 c2 P i t tv W0 U0 S0 X0 p ⟨ths, n, P.cls, shs, P.ws, mv, P.lg, ah⟩ c ⟨P.ws.set 0 ((m : Int) + 1), [swA i P.n 0 (m : Int) ((m : Int) + 1) (m : Int)], P.g, none, some (pAt P.g (m : Int) P.n), some (2, v)⟩) := by
  have hki : tkF P.pts i = some (.steal 4 (m : Int) v) := (tkF_at G.ht).trans G.hk
  obtain ⟨b1, b2, b3, b4⟩ := G.ats.busy i _ hki
  have q0 : X0 (bt i) ∨ W0.heap.size ≤ bt i := .inl (G.xx _ _ b2)
  have qc : X0 bc ∨ W0.heap.size ≤ bc := .inl (G.xx _ _ G.ats.com)
  have hok := G.iv.tsk i t _ G.ht G.hk
  simp only [Ok] at hok
  have g0 := G.r0
  have g1 := G.r1
  have g2 := G.lt
  have g3 := G.iv.r2
  have q1 : -1 ≤ wrap64 (rd P.ws 0) ∧ wrap64 (rd P.ws 0) ≤ 1000000 := ⟨by omega, by omega⟩
  have q2 : -1 ≤ wrap64 (rd P.ws 1) ∧ wrap64 (rd P.ws 1) ≤ 1000000 := ⟨by omega, by omega⟩
  refine (wk (r := true) b1 G.d b2 rfl rfl (enters_of Tryz.func90 (by kernel_rfl) rfl) (steal4y G.d G.roomy b2 G.ats.com b3 q0 G.iv.len (by omega) hy (fun m q e => (G.ats.low m q e).1) _ G.th c G.call cl G.cl) (fun w' h' => cell1 h' (.inl ⟨rfl, rfl⟩) rfl) (.inl ⟨rfl, rfl⟩)).mono ?_
  rintro e w' ⟨rfl, hD'⟩
  exact ⟨rfl, _, true, _, _, foldD hD' rfl (setP_some G.cl _) rfl rfl rfl rfl, len2 _ _ G.ahl, (G.ats.fin hki _).at_⟩
set_option maxHeartbeats 1000000 in
theorem w_steal4n {v : Int} {m : Nat} (G : Gv r bc bl bt P i t (.steal 4 (m : Int) v) tv X W0 U0 S0 X0 p ths n shs mv ah W1 c cl) (hy : ¬ rd P.ws 0 = (m : Int)) :
    Calls Tryz.prog 36 #[tv i, .bool t.fr, .pointer (some ⟨p.bd, 0, none⟩)] W1 (Done r bc cs c1 c2 P i t tv W0 U0 S0 X0 p ⟨ths, n, P.cls, shs, P.ws, mv, P.lg, ah⟩ c ⟨P.ws, [swA i P.n 0 (m : Int) ((m : Int) + 1) (rd P.ws 0)], P.g, some (.steal 1 (m : Int) v), none, none⟩) := by
  have hki : tkF P.pts i = some (.steal 4 (m : Int) v) := (tkF_at G.ht).trans G.hk
  obtain ⟨b1, b2, b3, b4⟩ := G.ats.busy i _ hki
  have q0 : X0 (bt i) ∨ W0.heap.size ≤ bt i := .inl (G.xx _ _ b2)
  have qc : X0 bc ∨ W0.heap.size ≤ bc := .inl (G.xx _ _ G.ats.com)
  have hok := G.iv.tsk i t _ G.ht G.hk
  simp only [Ok] at hok
  have g0 := G.r0
  have g1 := G.r1
  have g2 := G.lt
  have g3 := G.iv.r2
  have q1 : -1 ≤ wrap64 (rd P.ws 0) ∧ wrap64 (rd P.ws 0) ≤ 1000000 := ⟨by omega, by omega⟩
  have q2 : -1 ≤ wrap64 (rd P.ws 1) ∧ wrap64 (rd P.ws 1) ≤ 1000000 := ⟨by omega, by omega⟩
  refine (wk (r := false) b1 G.d b2 rfl rfl (enters_of Tryz.func90 (by kernel_rfl) rfl) (steal4n G.d G.roomy b2 G.ats.com b3 q0 G.iv.len (by omega) hy) (fun w' h' => cell1 h' (.inl ⟨rfl, rfl⟩) rfl) (.inr ⟨_, rfl, rfl⟩)).mono ?_
  rintro e w' ⟨rfl, hD'⟩
  exact ⟨rfl, _, true, _, _, foldD hD' (set_self G.th).symm rfl rfl rfl rfl rfl, len1 _ G.ahl, (G.ats.go (k' := (.steal 1 (m : Int) v)) hki rfl).at_⟩
end
theorem step_d (r bc cs c1 c2 : Nat) : StepOk (dqY r) (dqL r bc cs c1 c2) (Iv r) := by
  intro P i t k tv X W0 U0 S0 X0 p s W1 c cl ef hef hI hb hn ht hk hat hXX hs1 hs2 hs3 hs4 hs5 hc hcl hD
  obtain ⟨ths, n, cls, shs, ws, mv, lg, ah⟩ := s
  replace hs2 : cls = P.cls := hs2
  replace hs3 : ws = P.ws := hs3
  replace hs4 : lg = P.lg := hs4
  subst hs2 hs3 hs4
  obtain ⟨bl, bt, a1, a2, a3, a4, a5⟩ := hat
  have G : Gv r bc bl bt P i t k tv X W0 U0 S0 X0 p ths n shs mv ah W1 c cl := ⟨hI, hb, hn, ht, hk, ⟨a1, a2, a3, a4, a5⟩, hXX, hs1, hs5, hc, hcl, hD⟩
  have hok := hI.tsk i t k ht hk
  clear hD hs1 hs5 hXX a1 a2 a3 a4 a5 hcl hc hb
  subst hef
  cases k with
  | push nx v b =>
    simp only [Ok] at hok
    obtain rfl | rfl | rfl | rfl : nx = 1 ∨ nx = 2 ∨ nx = 3 ∨ nx = 4 := by omega
    · exact w_push1 G
    · by_cases hy : (r : Int) ≤ b - wrap64 (rd P.ws 0)
      · have e := w_push2f (cs := cs) (c1 := c1) (c2 := c2) G hy
        have e2 : (dqY r).stp t.fr i P.n P.ws P.g (.push 2 v b) = _ := if_pos hy
        rw [e2]; exact e
      · have e := w_push2n (cs := cs) (c1 := c1) (c2 := c2) G hy
        have e2 : (dqY r).stp t.fr i P.n P.ws P.g (.push 2 v b) = _ := if_neg hy
        rw [e2]; exact e
    · obtain ⟨m, rfl⟩ : ∃ m : Nat, b = (m : Int) := ⟨b.toNat, by omega⟩
      exact w_push3 G
    · exact w_push4 G
  | take nx l tt v =>
    simp only [Ok] at hok
    obtain rfl | rfl | rfl | rfl | rfl | rfl | rfl : nx = 1 ∨ nx = 2 ∨ nx = 3 ∨ nx = 4 ∨ nx = 5 ∨ nx = 6 ∨ nx = 7 := by omega
    · exact w_take1 G
    · exact w_take2 G
    · by_cases hy : l < wrap64 (rd P.ws 0)
      · have e := w_take3y (cs := cs) (c1 := c1) (c2 := c2) G hy
        have e2 : (dqY r).stp t.fr i P.n P.ws P.g (.take 3 l tt v) = _ := if_pos hy
        rw [e2]; exact e
      · have e := w_take3n (cs := cs) (c1 := c1) (c2 := c2) G hy
        have e2 : (dqY r).stp t.fr i P.n P.ws P.g (.take 3 l tt v) = _ := if_neg hy
        rw [e2]; exact e
    · exact w_take4 G
    · obtain ⟨m, rfl⟩ : ∃ m : Nat, l = (m : Int) := ⟨l.toNat, by omega⟩
      by_cases hy : tt < (m : Int)
      · have e := w_take5y (cs := cs) (c1 := c1) (c2 := c2) G hy
        have e2 : (dqY r).stp t.fr i P.n P.ws P.g (.take 5 (m : Int) tt v) = _ := if_pos hy
        rw [e2]; exact e
      · have e := w_take5n (cs := cs) (c1 := c1) (c2 := c2) G hy
        have e2 : (dqY r).stp t.fr i P.n P.ws P.g (.take 5 (m : Int) tt v) = _ := if_neg hy
        rw [e2]; exact e
    · obtain ⟨m, rfl⟩ : ∃ m : Nat, tt = (m : Int) := ⟨tt.toNat, by omega⟩
      by_cases hy : rd P.ws 0 = (m : Int)
      · have e := w_take6y (cs := cs) (c1 := c1) (c2 := c2) G hy
        have e2 : (dqY r).stp t.fr i P.n P.ws P.g (.take 6 l (m : Int) v) = _ := if_pos hy
        rw [e2]; exact e
      · have e := w_take6n (cs := cs) (c1 := c1) (c2 := c2) G hy
        have e2 : (dqY r).stp t.fr i P.n P.ws P.g (.take 6 l (m : Int) v) = _ := if_neg hy
        rw [e2]; exact e
    · exact w_take7 G
  | steal nx tt v =>
    simp only [Ok] at hok
    obtain rfl | rfl | rfl | rfl : nx = 1 ∨ nx = 2 ∨ nx = 3 ∨ nx = 4 := by omega
    · exact w_steal1 G
    · by_cases hy : wrap64 (rd P.ws 1) - tt ≤ 0
      · have e := w_steal2f (cs := cs) (c1 := c1) (c2 := c2) G hy
        have e2 : (dqY r).stp t.fr i P.n P.ws P.g (.steal 2 tt v) = _ := if_pos hy
        rw [e2]; exact e
      · have e := w_steal2n (cs := cs) (c1 := c1) (c2 := c2) G hy
        have e2 : (dqY r).stp t.fr i P.n P.ws P.g (.steal 2 tt v) = _ := if_neg hy
        rw [e2]; exact e
    · obtain ⟨m, rfl⟩ : ∃ m : Nat, tt = (m : Int) := ⟨tt.toNat, by omega⟩
      exact w_steal3 G
    · obtain ⟨m, rfl⟩ : ∃ m : Nat, tt = (m : Int) := ⟨tt.toNat, by omega⟩
      by_cases hy : rd P.ws 0 = (m : Int)
      · have e := w_steal4y (cs := cs) (c1 := c1) (c2 := c2) G hy
        have e2 : (dqY r).stp t.fr i P.n P.ws P.g (.steal 4 (m : Int) v) = _ := if_pos hy
        rw [e2]; exact e
      · have e := w_steal4n (cs := cs) (c1 := c1) (c2 := c2) G hy
        have e2 : (dqY r).stp t.fr i P.n P.ws P.g (.steal 4 (m : Int) v) = _ := if_neg hy
        rw [e2]; exact e
end Go.Proofs.YtnapnhmmopajfaaGreat.Dm
/-
  THE DEQUE's KIT: the look-up, Kit.begin; the contract BegOk.
-/
namespace Go.Proofs.YtnapnhmmopajfaaGreat.Dm
open Go.RowKit Mr Me Ma Gm
set_option linter.unusedVariables false
set_option linter.unusedSimpArgs false
set_option maxRecDepth 100000
section
variable {r bc bl : Nat} {bt : Nat → Nat} {tk : Nat → Option Dt} {g : Lw} {tv : Nat → Value} {X : Nat → Obj → Prop}
/-- A new task. -/
theorem AtB.new (h : AtB r bc bl bt tk g tv X) {i : Nat} (hk : tk i = none) (b : Nat) (k : Dt) (hb : ∀ q o, X q o → q ≠ b) (hl : g.isSome = true → bl ≠ b) : AtB r bc bl (upd bt i b) (upd tk i (some k)) g (upd tv i (.iface (ty k) (.pointer (some ⟨b, 0, none⟩)))) (fun q o => X q o ∨ (q = b ∧ o = obj bc b k)) := by
  refine ⟨.inl h.com, fun m q e => ⟨.inl (h.low m q e).1, (h.low m q e).2⟩, fun j hj => ?_, fun j t hj => ?_, fun j q t u ha hb' e => ?_⟩
  · by_cases hji : j = i
    · subst hji; rw [upd_same] at hj; cases hj
    · rw [upd_other _ _ _ _ hji] at hj ⊢; exact h.idle j hj
  · by_cases hji : j = i
    · subst hji
      rw [upd_same] at hj; cases hj
      rw [upd_same, upd_same]
      exact ⟨rfl, .inr ⟨rfl, rfl⟩, fun e => hb _ _ h.com e.symm, fun hg e => hl hg e.symm⟩
    · rw [upd_other _ _ _ _ hji] at hj
      rw [upd_other _ _ _ _ hji, upd_other _ _ _ _ hji]
      obtain ⟨c1, c2, c3, c4⟩ := h.busy j t hj
      exact ⟨c1, .inl c2, c3, c4⟩
  · by_cases hji : j = i
    · subst hji
      by_cases hqi : q = j
      · exact hqi.symm
      · rw [upd_other _ _ _ _ hqi] at hb'
        rw [upd_same, upd_other _ _ _ _ hqi] at e
        exact absurd e.symm (hb _ _ (h.busy q u hb').2.1)
    · rw [upd_other _ _ _ _ hji] at ha
      by_cases hqi : q = i
      · subst hqi
        rw [upd_same, upd_other _ _ _ _ hji] at e
        exact absurd e (hb _ _ (h.busy j t ha).2.1)
      · rw [upd_other _ _ _ _ hqi] at hb'
        rw [upd_other _ _ _ _ hji, upd_other _ _ _ _ hqi] at e
        exact h.dj j q t u ha hb' e
end
def mkF (cs c1 c2 : Nat) (op : Int) : Value :=
  if op = 90 then .func (.func 47) #[] #[.pointer (some ⟨c1, 0, none⟩)]
  else if op = 91 then .func (.func 47) #[] #[.pointer (some ⟨c2, 0, none⟩)]
  else if op = 92 then .func (.func 34) #[] #[.pointer (some ⟨cs, 0, none⟩)]
  else .nilFunc
theorem look {W : World} {km cs c1 c2 : Nat} (hm : W.heap[km]? = some (.map #[⟨.int .i64 90, .func (.func 47) #[] #[.pointer (some ⟨c1, 0, none⟩)], 0⟩, ⟨.int .i64 91, .func (.func 47) #[] #[.pointer (some ⟨c2, 0, none⟩)], 1⟩, ⟨.int .i64 92, .func (.func 34) #[] #[.pointer (some ⟨cs, 0, none⟩)], 2⟩] 3)) (op : Int) : (Instr.lookup 73 (.map (some km)) (.int .i64 op) false).run Tryz.prog W = .ok (mkF cs c1 c2 op) W := by
  have hch : ∀ b, (Instr.checkKey b 10000 25 (.int .i64 op)).run Tryz.prog W = .ok () W := fun b => by cases b <;> kernel_rfl
  have hget := show (getObj km).run Tryz.prog W = .ok _ W from by simp [getObj, Sem.run, hm]; rfl
  unfold mkF
  by_cases h1 : op = 90
  · subst h1
    simp [Instr.lookup, run_underlying Tryz.underlying73, hget, hch, Instr.findKey, run_underlying Tryz.underlying25, Instr.findNow, Instr.sameNow]
  · by_cases h2 : op = 91
    · subst h2
      simp [Instr.lookup, run_underlying Tryz.underlying73, hget, hch, Instr.findKey, run_underlying Tryz.underlying25, Instr.findNow, Instr.sameNow]
    · by_cases h3 : op = 92
      · subst h3
        simp [Instr.lookup, run_underlying Tryz.underlying73, hget, hch, Instr.findKey, run_underlying Tryz.underlying25, Instr.findNow, Instr.sameNow]
      · have b1 : (op == 90) = false := by simpa using h1
        have b2 : (op == 91) = false := by simpa using h2
        have b3 : (op == 92) = false := by simpa using h3
        simp [Instr.lookup, run_underlying Tryz.underlying73, hget, hch, Instr.findKey, run_underlying Tryz.underlying25, Instr.findNow, Instr.sameNow, b1, b2, b3, h1, h2, h3]
set_option maxHeartbeats 1000000 in
theorem beg_d (r bc cs c1 c2 : Nat) : BegOk (dqY r) (dqL r bc cs c1 c2) (Iv r) := by
  intro P i t op arg data tv X V K km hI hb ht hk hat hXV hka hKl
  obtain ⟨bl, bt, a1, a2, a3, a4, a5⟩ := hat
  have hA : AtB r bc bl bt (tkF P.pts) P.g tv X := ⟨a1, a2, a3, a4, a5⟩
  obtain ⟨m1, m2, m3, m4, k1, k2, k3, k4⟩ := hka
  have hki : tkF P.pts i = none := (tkF_at ht).trans hk
  have hlt : ∀ q o, X q o → q < V.heap.size := fun q o h => by
    have := hXV q o h
    exact (Array.getElem?_eq_some_iff.1 this).1
  have hsM : (V.alloc (mvO i op arg data)).heap.size = V.heap.size + 1 := by simp
  have L : ∀ o, (Instr.lookup 73 (.map (some km)) (.int .i64 op) false).run Tryz.prog (V.alloc o) = .ok (mkF cs c1 c2 op) (V.alloc o) := fun o => look ((Below.heap_alloc _ _ _ (hKl km k1)).trans m1) op
  have cM : ∀ {a : Nat} {v : Value}, K a → V.cell? ⟨a, 0, none⟩ = some v → (V.alloc (mvO i op arg data)).cell? ⟨a, 0, none⟩ = some v := fun ha hv => (World.cell?_of_block (Below.heap_alloc _ _ _ (hKl _ ha))).trans hv
  have bM : ∀ w, Below (V.alloc (mvO i op arg data)).heap.size (V.alloc (mvO i op arg data)) w → Below V.heap.size V w := fun w hB => ((Below.refl _ _).alloc (Nat.le_refl _) _).trans (hB.mono (by rw [hsM]; omega))
  have SOME : ∀ (k : Dt) (d : Nat) (w' : World) (e : Ending), MadeI (V.alloc (mvO i op arg data)) d bc k e w' → e = .returned (.iface (ty k) (.pointer (some ⟨V.heap.size + 1 + d, 0, none⟩))) ∧ (∃ ty' x, e = .returned (.iface ty' x) ∧ Below V.heap.size V w' ∧ ∃ N : Nat → Obj → Prop, (∀ k o, N k o → V.heap.size ≤ k ∧ w'.heap[k]? = some o) ∧ (dqL r bc cs c1 c2).at_ (upd (tkF P.pts) i (some k)) P.g (upd tv i (.iface ty' x)) (fun k o => X k o ∨ N k o)) := fun k d w' e hM => by
    obtain ⟨rfl, h1, h2⟩ := hM
    rw [hsM] at h2 ⊢
    refine ⟨rfl, _, _, rfl, bM _ h1, fun q o => q = V.heap.size + 1 + d ∧ o = obj bc (V.heap.size + 1 + d) k, ?_, (hA.new hki (V.heap.size + 1 + d) k (fun q o hq => ?_) (fun hg => ?_)).at_⟩
    · rintro q o ⟨rfl, rfl⟩
      exact ⟨by omega, h2⟩
    · have := hlt q o hq; omega
    · obtain ⟨⟨m, q⟩, hg⟩ := Option.isSome_iff_exists.1 hg
      have := hlt _ _ (hA.low m q hg).1; omega
  have FIN : ∀ (k : Dt) (d g ca : Nat) (hg : mkF cs c1 c2 op = .func (.func g) #[] #[.pointer (some ⟨ca, 0, none⟩)]) (eg : ∀ args w, (callFunc g args).run Tryz.prog w = .ok (.enter g args) w), Calls Tryz.prog g #[.int .i64 (i : Int), .agg #[.int .i64 (i : Int), .int .i64 op, .int .i64 arg, .int .i64 data], .pointer (some ⟨ca, 0, none⟩)] (V.alloc (mvO i op arg data)) (MadeI (V.alloc (mvO i op arg data)) d bc k) →
      Calls Tryz.prog 38 #[.map (some km), .agg #[.int .i64 (i : Int), .int .i64 op, .int .i64 arg, .int .i64 data]] V fun e w' => ∃ ty x, e = .returned (.iface ty x) ∧ Below V.heap.size V w' ∧ ∃ N : Nat → Obj → Prop, (∀ k o, N k o → V.heap.size ≤ k ∧ w'.heap[k]? = some o) ∧ (dqL r bc cs c1 c2).at_ (upd (tkF P.pts) i (some k)) P.g (upd tv i (.iface ty x)) (fun k o => X k o ∨ N k o) := fun k d g ca hg eg C => by
    refine (kit_call (W := V) (r := .iface (ty k) (.pointer (some ⟨V.heap.size + 1 + d, 0, none⟩))) (Q := fun w' => MadeI (V.alloc (mvO i op arg data)) d bc k (.returned (.iface (ty k) (.pointer (some ⟨V.heap.size + 1 + d, 0, none⟩)))) w') i op arg data (fun o => by rw [L o, hg]) eg (C.mono fun e w' hM => ?_)).mono ?_
    · have e1 := (SOME k d w' e hM).1
      subst e1
      exact ⟨rfl, hM⟩
    · rintro e w' ⟨rfl, hM⟩
      exact (SOME k d w' _ hM).2
  have NONE : mkF cs c1 c2 op = .nilFunc → Calls Tryz.prog 38 #[.map (some km), .agg #[.int .i64 (i : Int), .int .i64 op, .int .i64 arg, .int .i64 data]] V fun e w' => e = .returned .nilIface ∧ Below V.heap.size V w' := fun hg => by
    refine (kit_none (W := V) i op arg data (fun o => by rw [L o, hg])).mono ?_
    rintro e w' ⟨rfl, rfl⟩
    exact ⟨rfl, bM _ (Below.refl _ _)⟩
  have NO : ∀ ca, mkF cs c1 c2 op = .func (.func 47) #[] #[.pointer (some ⟨ca, 0, none⟩)] → i ≠ 0 → Calls Tryz.prog 38 #[.map (some km), .agg #[.int .i64 (i : Int), .int .i64 op, .int .i64 arg, .int .i64 data]] V fun e w' => e = .returned .nilIface ∧ Below V.heap.size V w' := fun ca hg hi => by
    refine (kit_call (W := V) i op arg data (fun o => by rw [L o, hg]) (enters_of Tryz.func47 (by kernel_rfl) rfl) (own_no i hi i op arg data)).mono ?_
    rintro e w' ⟨rfl, hB⟩
    exact ⟨rfl, bM _ hB⟩
  have eY : (dqY r).mkr i op arg data P.g = mk i op arg data P.g := rfl
  rw [eY]
  by_cases h1 : op = 90
  · have hg : mkF cs c1 c2 op = .func (.func 47) #[] #[.pointer (some ⟨c1, 0, none⟩)] := by simp [mkF, h1]
    by_cases hi : i = 0
    · have e : mk i op arg data P.g = some (.push 1 arg 0) := by simp [mk, h1, hi]
      rw [e]
      have C := own_push (cM k3 m3) (cM k2 m2) (i : Int) op arg data
      refine FIN _ 2 _ _ hg (enters_of Tryz.func47 (by kernel_rfl) rfl) ?_
      have e0 : (i : Int) = 0 := by omega
      rw [e0] at C ⊢
      exact C
    · have e : mk i op arg data P.g = none := by simp [mk, h1, hi]
      rw [e]
      exact NO _ hg hi
  · by_cases h2 : op = 91
    · have hg : mkF cs c1 c2 op = .func (.func 47) #[] #[.pointer (some ⟨c2, 0, none⟩)] := by simp [mkF, h2]
      by_cases hi : i = 0
      · have e : mk i op arg data P.g = some (.take 1 0 0 0) := by simp [mk, h2, hi]
        rw [e]
        have C := own_take (cM k4 m4) (cM k2 m2) (i : Int) op arg data
        refine FIN _ 2 _ _ hg (enters_of Tryz.func47 (by kernel_rfl) rfl) ?_
        have e0 : (i : Int) = 0 := by omega
        rw [e0] at C ⊢
        exact C
      · have e : mk i op arg data P.g = none := by simp [mk, h2, hi]
        rw [e]
        exact NO _ hg hi
    · by_cases h3 : op = 92
      · have hg : mkF cs c1 c2 op = .func (.func 34) #[] #[.pointer (some ⟨cs, 0, none⟩)] := by simp [mkF, h3]
        have e : mk i op arg data P.g = some (.steal 1 0 0) := by simp [mk, h3]
        rw [e]
        exact FIN _ 1 _ _ hg (enters_of Tryz.func34 (by kernel_rfl) rfl) (kit3_any (cM k2 m2) i i op arg data)
      · have e : mk i op arg data P.g = none := by simp [mk, h1, h2, h3]
        rw [e]
        exact NONE (by simp [mkF, h1, h2, h3])
end Go.Proofs.YtnapnhmmopajfaaGreat.Dm
