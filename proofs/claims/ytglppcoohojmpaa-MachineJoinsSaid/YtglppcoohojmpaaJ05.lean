import Derived.Test.YtglppcoohojmpaaJ04
import Derived.Defers
import Derived.Recover
/-
  THE MACHINE's OWN TASKS: look's and bump's Ready and Step by their contracts.
-/
namespace Go.Proofs.Ytglppcoohojmpaa.Ma
open Go.RowKit Mr Me
def lookO (ad : Nat) : Obj := .cells #[.int .i64 (ad : Int)] 106 (0, 0)
def bumpO (ad : Nat) (x : Int) (ld : Bool) : Obj := .cells #[.int .i64 (ad : Int), .int .u64 x, .bool ld] 110 (0, 0)
theorem look_ready (a d : Value) (w : World) : Calls Try.prog 96 #[a, d] w fun e w' => e = .returned (.bool false) ∧ w' = w := by
  go_enter Try.func96, Try.ntmps96
  go_wp2
  go_ret
  exact ⟨rfl, rfl⟩
theorem bump_ready (a d : Value) (w : World) : Calls Try.prog 110 #[a, d] w fun e w' => e = .returned (.bool false) ∧ w' = w := by
  go_enter Try.func110, Try.ntmps110
  go_wp2
  go_ret
  exact ⟨rfl, rfl⟩
section
variable {W0 : World} {U0 S0 X0 : Nat → Prop} {p : Ph} {i : Nat} {now : Int} {X : Nat → Obj → Prop} {s : Ss} {W : World} {sp : Bool}
theorem D.at (h : D W0 U0 S0 X0 p i now X sp s W) {k : Nat} {o : Obj} (hk : X k o) : W.heap[k]? = some o := by
  obtain ⟨U, S, vl, va, hx, _⟩ := h
  exact (hx k o hk).1
theorem D.put (h : D W0 U0 S0 X0 p i now X sp s W) {k j : Nat} {cs : Array Value} {t : TypeId} (hk : X k (.cells cs t (0, 0))) (u : Value) (h0 : X0 k ∨ W0.heap.size ≤ k) {X' : Nat → Obj → Prop} (hX : ∀ k' o, X' k' o → (k' = k ∧ o = .cells (cs.setIfInBounds j u) t (0, 0)) ∨ (k' ≠ k ∧ X k' o)) :
    D W0 U0 S0 X0 p i now X' sp s (W.setCell ⟨k, j, none⟩ u) := by
  obtain ⟨U, S, vl, va, hx, hm, hd, hU, hS0, hU0, hU1, hf⟩ := h
  obtain ⟨q1, q2, q3, q4, q5, q6, q7, q8⟩ := hx k _ hk
  have ho : ∀ k', k' ≠ k → (W.setCell ⟨k, j, none⟩ u).heap[k']? = W.heap[k']? := fun k' hne => Below.heap_setCell _ _ _ k' hne
  refine ⟨U, S, vl, va, ?_, ?_, hd.kept (ho _ (fun e => hU.1 (e ▸ q2))) (ho _ (fun e => hU.2.1 (e ▸ q2))), hU, hS0, hU0, hU1, hf.setCell _ _ (h0.elim (fun h => .inl (.inr (.inl h))) .inr)⟩
  · intro k' o hk'
    rcases hX k' o hk' with ⟨rfl, rfl⟩ | ⟨hne, hx'⟩
    · exact ⟨setBlk q1 j u, q2, q3, q4, q5, q6, q7, q8⟩
    · obtain ⟨r1, r2⟩ := hx k' o hx'
      exact ⟨(ho k' hne).trans r1, r2⟩
  · refine ⟨(ho _ q4.symm).trans hm.blk, (ho _ q5.symm).trans hm.bk, hm.mem.kept (fun k' hs _ => ho k' (fun e => q3 (e ▸ hs))), hm.thr.setCell _ _ (fun e => ?_), hm.cal.setCell _ _ (fun e => q7 e), hm.shf.setCell _ _ (fun e => q8 e), hm.ub, hm.ubb, hm.su, fun k' hk' => by simpa using hm.ul k' hk'⟩
    simp [Value.ownBlock] at e
    exact q6 e.symm
set_option maxRecDepth 100000 in
set_option maxHeartbeats 1000000 in
theorem look_step (h : D W0 U0 S0 X0 p i now X false s W) (hb : Me.Roomy s.lg s.ah) {bt ad : Nat} (hX : X bt (lookO ad)) (hi : ad < s.ws.length) (t : Th) (ht : s.ths[i]? = some t) (c : Nat) (hcall : t.call = c) (cl : Cl) (hc : s.cls[c]? = some cl) :
    Calls Try.prog 97 #[.pointer (some ⟨bt, 0, none⟩), .pointer (some ⟨p.bd, 0, none⟩)] W fun e w' => e = .returned (.bool true) ∧ D W0 U0 S0 X0 p i now X true ((s.loads i now ad).told i c cl t now 2 (wrap64 (s.ws[ad]?.getD 0))) w' := by
  have L := desk_load h hb ad hi
  have T := fun (w1 : World) (h1 : D W0 U0 S0 X0 p i now X true (s.loads i now ad) w1) => tellWord_any h1 t ht c hcall cl hc (s.ws[ad]?.getD 0)
  have c0 : W.cell? ⟨bt, 0, none⟩ = some (.int .i64 (ad : Int)) := by have := h.at hX; simp [World.cell?, this, lookO]
  generalize (s.loads i now ad).told i c cl t now 2 (wrap64 (s.ws[ad]?.getD 0)) = s' at *
  generalize s.ws[ad]?.getD 0 = x at *
  generalize s.loads i now ad = s1 at *
  clear h hb hX hi ht hcall hc
  go_enter Try.func97, Try.ntmps97
  go_wp2_with (first | (go_at_call 99; refine L.mono ?_; clear L; rintro e w1 ⟨rfl, h1⟩; have T1 := T w1 h1; clear T) | (go_at_call 98; refine T1.mono ?_; clear T1; rintro e w2 ⟨rfl, h2⟩))
  go_ret
  exact ⟨rfl, h2⟩
set_option maxRecDepth 100000 in
set_option maxHeartbeats 1000000 in
theorem bump_load (h : D W0 U0 S0 X0 p i now X false s W) (hb : Me.Roomy s.lg s.ah) {bt ad : Nat} {y : Int} (hX : X bt (bumpO ad y false)) (h0 : X0 bt ∨ W0.heap.size ≤ bt) (hi : ad < s.ws.length) {X' : Nat → Obj → Prop} (hX' : ∀ k o, X' k o → (k = bt ∧ o = bumpO ad (s.ws[ad]?.getD 0) true) ∨ (k ≠ bt ∧ X k o)) :
    Calls Try.prog 111 #[.pointer (some ⟨bt, 0, none⟩), .pointer (some ⟨p.bd, 0, none⟩)] W fun e w' => e = .returned (.bool false) ∧ D W0 U0 S0 X0 p i now X' true (s.loads i now ad) w' := by
  have L := desk_load h hb ad hi
  have a0 := h.at hX
  have fin := fun (w1 : World) (h1 : D W0 U0 S0 X0 p i now X true (s.loads i now ad) w1) => by
    have q1 := D.put (j := 1) (X' := fun k o => (k = bt ∧ o = bumpO ad (s.ws[ad]?.getD 0) false) ∨ (k ≠ bt ∧ X k o)) h1 hX (.int .u64 (s.ws[ad]?.getD 0)) h0 (fun k o hk => hk)
    exact D.put (j := 2) (X' := X') q1 (.inl ⟨rfl, rfl⟩) (.bool true) h0 (fun k o hk => by
      rcases hX' k o hk with ⟨rfl, rfl⟩ | ⟨hne, hx⟩
      · exact .inl ⟨rfl, rfl⟩
      · exact .inr ⟨hne, .inr ⟨hne, hx⟩⟩)
  have c0 : W.cell? ⟨bt, 0, none⟩ = some (.int .i64 (ad : Int)) := by simp [World.cell?, a0, bumpO]
  have c2 : W.cell? ⟨bt, 2, none⟩ = some (.bool false) := by simp [World.cell?, a0, bumpO]
  have cw := fun (w1 : World) (h1 : D W0 U0 S0 X0 p i now X true (s.loads i now ad) w1) => (show w1.cell? ⟨bt, 1, none⟩ = some (.int .u64 y) ∧ w1.frozen? ⟨bt, 1, none⟩ = false ∧ w1.cell? ⟨bt, 2, none⟩ = some (.bool false) ∧ w1.frozen? ⟨bt, 2, none⟩ = false from by
    have a1 := h1.at hX
    simp [World.cell?, World.frozen?, a1, bumpO])
  generalize s.ws[ad]?.getD 0 = x at *
  generalize s.loads i now ad = s1 at *
  clear h hb hX hi a0 hX'
  go_enter Try.func111, Try.ntmps111
  go_wp2_with (go_at_call 99; refine L.mono ?_; clear L; rintro e w1 ⟨rfl, h1⟩; obtain ⟨g1, g1z, g2, g2z⟩ := cw w1 h1; have fin1 := fin w1 h1; clear cw fin; replace h1 := Mr.hid h1; replace fin1 := Mr.hid fin1)
  go_ret
  exact ⟨rfl, fin1.out⟩
set_option maxRecDepth 100000 in
set_option maxHeartbeats 1000000 in
theorem bump_hit (h : D W0 U0 S0 X0 p i now X false s W) (hb : Me.Roomy s.lg s.ah) {bt ad : Nat} {y : Int} (hX : X bt (bumpO ad y true)) (h0 : X0 bt ∨ W0.heap.size ≤ bt) (hi : ad < s.ws.length) (ho : s.ws[ad]?.getD 0 = y) (t : Th) (ht : s.ths[i]? = some t) (c : Nat) (hcall : t.call = c) (cl : Cl) (hc : s.cls[c]? = some cl) {X' : Nat → Obj → Prop} (hX' : ∀ k o, X' k o → (k = bt ∧ o = bumpO ad y false) ∨ (k ≠ bt ∧ X k o)) (hX2 : X' bt (bumpO ad y false)) :
    Calls Try.prog 111 #[.pointer (some ⟨bt, 0, none⟩), .pointer (some ⟨p.bd, 0, none⟩)] W fun e w' => e = .returned (.bool true) ∧ D W0 U0 S0 X0 p i now X' true ((s.hits i now ad y (IntKind.u64.wrap (y + 1))).told i c cl t now 2 (wrap64 y)) w' := by
  have a0 := h.at hX
  have c2 : W.cell? ⟨bt, 2, none⟩ = some (.bool true) := by simp [World.cell?, a0, bumpO]
  have c2z : W.frozen? ⟨bt, 2, none⟩ = false := by simp [World.frozen?, a0, bumpO]
  have q0 := D.put (j := 2) (X' := X') h hX (.bool false) h0 hX'
  have q1 := desk_hit q0.drew hb ad hi y (IntKind.u64.wrap (y + 1)) ho
  have T := fun (w1 : World) (h1 : D W0 U0 S0 X0 p i now X' true (s.hits i now ad y (IntKind.u64.wrap (y + 1))) w1) => tellWord_any h1 t ht c hcall cl hc y
  have cw := fun (sp : Bool) (s1 : Ss) (w1 : World) (h1 : D W0 U0 S0 X0 p i now X' sp s1 w1) => (show w1.cell? ⟨bt, 0, none⟩ = some (.int .i64 (ad : Int)) ∧ w1.cell? ⟨bt, 1, none⟩ = some (.int .u64 y) from by
    have a1 := h1.at hX2
    simp [World.cell?, a1, bumpO])
  obtain ⟨g0, g1⟩ := cw _ _ _ q0
  generalize (s.hits i now ad y (IntKind.u64.wrap (y + 1))).told i c cl t now 2 (wrap64 y) = s' at *
  generalize s.hits i now ad y (IntKind.u64.wrap (y + 1)) = s1 at *
  clear h hb hX hi a0 hX' ho ht hcall hc
  replace q0 := Mr.hid q0
  go_enter Try.func111, Try.ntmps111
  go_wp2
  generalize W.setCell ⟨bt, 2, none⟩ (.bool false) = W1 at *
  go_region_held3 (fun w' => w'.cell? ⟨bt, 0, none⟩ = some (.int .i64 (ad : Int)) ∧ w'.cell? ⟨bt, 1, none⟩ = some (.int .u64 y)) (go_keep)
    (first | (go_at_call 112; refine q1.mono ?_; clear q1; rintro e w2 ⟨rfl, h2⟩; obtain ⟨f0, f1⟩ := cw _ _ _ h2; have T2 := T w2 h2; clear T cw; replace h2 := Mr.hid h2))
  go_wp2_with (go_at_call 98; refine T2.mono ?_; clear T2; rintro e w3 ⟨rfl, h3⟩)
  go_ret
  exact ⟨rfl, h3⟩
set_option maxRecDepth 100000 in
set_option maxHeartbeats 1000000 in
theorem bump_miss (h : D W0 U0 S0 X0 p i now X false s W) (hb : Me.Roomy s.lg s.ah) {bt ad : Nat} {y : Int} (hX : X bt (bumpO ad y true)) (h0 : X0 bt ∨ W0.heap.size ≤ bt) (hi : ad < s.ws.length) (ho : s.ws[ad]?.getD 0 ≠ y) {X' : Nat → Obj → Prop} (hX' : ∀ k o, X' k o → (k = bt ∧ o = bumpO ad y false) ∨ (k ≠ bt ∧ X k o)) (hX2 : X' bt (bumpO ad y false)) :
    Calls Try.prog 111 #[.pointer (some ⟨bt, 0, none⟩), .pointer (some ⟨p.bd, 0, none⟩)] W fun e w' => e = .returned (.bool false) ∧ D W0 U0 S0 X0 p i now X' true (s.misses i now ad y (IntKind.u64.wrap (y + 1))) w' := by
  have a0 := h.at hX
  have c2 : W.cell? ⟨bt, 2, none⟩ = some (.bool true) := by simp [World.cell?, a0, bumpO]
  have c2z : W.frozen? ⟨bt, 2, none⟩ = false := by simp [World.frozen?, a0, bumpO]
  have q0 := D.put (j := 2) (X' := X') h hX (.bool false) h0 hX'
  have q1 := desk_miss q0.drew hb ad hi y (IntKind.u64.wrap (y + 1)) ho
  have cw := fun (sp : Bool) (s1 : Ss) (w1 : World) (h1 : D W0 U0 S0 X0 p i now X' sp s1 w1) => (show w1.cell? ⟨bt, 0, none⟩ = some (.int .i64 (ad : Int)) ∧ w1.cell? ⟨bt, 1, none⟩ = some (.int .u64 y) from by
    have a1 := h1.at hX2
    simp [World.cell?, a1, bumpO])
  obtain ⟨g0, g1⟩ := cw _ _ _ q0
  generalize s.misses i now ad y (IntKind.u64.wrap (y + 1)) = s1 at *
  clear h hb hX hi a0 hX' ho
  replace q0 := Mr.hid q0
  go_enter Try.func111, Try.ntmps111
  go_wp2
  generalize W.setCell ⟨bt, 2, none⟩ (.bool false) = W1 at *
  go_region_held3 (fun w' => w'.cell? ⟨bt, 0, none⟩ = some (.int .i64 (ad : Int)) ∧ w'.cell? ⟨bt, 1, none⟩ = some (.int .u64 y)) (go_keep)
    (first | (go_at_call 112; refine q1.mono ?_; clear q1; rintro e w2 ⟨rfl, h2⟩; obtain ⟨f0, f1⟩ := cw _ _ _ h2; clear cw; replace h2 := Mr.hid h2))
  go_wp2
  go_ret
  exact ⟨rfl, h2.out⟩
end
end Go.Proofs.Ytglppcoohojmpaa.Ma
/-
  work: a task's step through its interface, whatever the task's Step does; a task that does not panic.
-/
namespace Go.Proofs.Ytglppcoohojmpaa.Ma
open Go.RowKit Mr Me
theorem work_idle (w : World) : CallsD Try.prog 61 #[] .returning w fun e u' w' => e = .returned (.tuple #[]) ∧ u' = .returning ∧ w' = w := by
  refine callsD_of_wpS Try.func61 rfl fun c₀ cs hu => ?_
  apply wpS_region
  simp [wpOpsS, go_sem, recoverD, hu, Try.ntmps61, bodyPostS, results, Try.results61]
  cases c₀
  simp_all
theorem meth_look (n : Nat) (a : Addr) (w : World) : (method (n + 1) 104 (.pointer (some a)) "Step").run Try.prog w = .ok (97, .pointer (some a)) w := by kernel_rfl
theorem meth_look0 (n : Nat) (a : Addr) (w : World) : (method (n + 1) 104 (.pointer (some a)) "Ready").run Try.prog w = .ok (96, .pointer (some a)) w := by kernel_rfl
theorem meth_bump (n : Nat) (a : Addr) (w : World) : (method (n + 1) 108 (.pointer (some a)) "Step").run Try.prog w = .ok (111, .pointer (some a)) w := by kernel_rfl
theorem meth_bump0 (n : Nat) (a : Addr) (w : World) : (method (n + 1) 108 (.pointer (some a)) "Ready").run Try.prog w = .ok (110, .pointer (some a)) w := by kernel_rfl
set_option maxRecDepth 100000 in
theorem work_look {bt bd : Nat} {W : World} {r : Bool} {Q : World → Prop} (C : Calls Try.prog 97 #[.pointer (some ⟨bt, 0, none⟩), .pointer (some ⟨bd, 0, none⟩)] W fun e w' => e = .returned (.bool r) ∧ Q w') (first : Bool) :
    Calls Try.prog 49 #[.iface 104 (.pointer (some ⟨bt, 0, none⟩)), .bool first, .pointer (some ⟨bd, 0, none⟩)] W fun e w' => e = .returned (.bool r) ∧ Q w' := by
  have hm := fun n => meth_look n ⟨bt, 0, none⟩
  have hm0 := fun n => meth_look0 n ⟨bt, 0, none⟩
  cases first
  · go_enter_defers Try.func49, Try.ntmps49
    go_wp2_with (go_at_call 97; refine C.mono ?_; clear C; rintro e w1 ⟨rfl, h1⟩)
    refine leaves_cons (f := 61) (args := #[]) (by simp) (by simp [go_sem]) ?_
    refine (work_idle _).mono ?_
    rintro e u' w2 ⟨rfl, rfl, hw⟩
    obtain rfl := hw.symm
    simp [Leaves, settle, results, Try.results49, go_sem, h1]
  · go_enter_defers Try.func49, Try.ntmps49
    go_wp2_with (first | (go_at_call 96; refine (look_ready _ _ _).mono ?_; rintro e w' ⟨rfl, hw⟩; obtain rfl := hw.symm) | (go_at_call 97; refine C.mono ?_; clear C; rintro e w1 ⟨rfl, h1⟩))
    refine leaves_cons (f := 61) (args := #[]) (by simp) (by simp [go_sem]) ?_
    refine (work_idle _).mono ?_
    rintro e u' w2 ⟨rfl, rfl, hw⟩
    obtain rfl := hw.symm
    simp [Leaves, settle, results, Try.results49, go_sem, h1]
set_option maxRecDepth 100000 in
theorem work_bump {bt bd : Nat} {W : World} {r : Bool} {Q : World → Prop} (C : Calls Try.prog 111 #[.pointer (some ⟨bt, 0, none⟩), .pointer (some ⟨bd, 0, none⟩)] W fun e w' => e = .returned (.bool r) ∧ Q w') (first : Bool) :
    Calls Try.prog 49 #[.iface 108 (.pointer (some ⟨bt, 0, none⟩)), .bool first, .pointer (some ⟨bd, 0, none⟩)] W fun e w' => e = .returned (.bool r) ∧ Q w' := by
  have hm := fun n => meth_bump n ⟨bt, 0, none⟩
  have hm0 := fun n => meth_bump0 n ⟨bt, 0, none⟩
  cases first
  · go_enter_defers Try.func49, Try.ntmps49
    go_wp2_with (go_at_call 111; refine C.mono ?_; clear C; rintro e w1 ⟨rfl, h1⟩)
    refine leaves_cons (f := 61) (args := #[]) (by simp) (by simp [go_sem]) ?_
    refine (work_idle _).mono ?_
    rintro e u' w2 ⟨rfl, rfl, hw⟩
    obtain rfl := hw.symm
    simp [Leaves, settle, results, Try.results49, go_sem, h1]
  · go_enter_defers Try.func49, Try.ntmps49
    go_wp2_with (first | (go_at_call 110; refine (bump_ready _ _ _).mono ?_; rintro e w' ⟨rfl, hw⟩; obtain rfl := hw.symm) | (go_at_call 111; refine C.mono ?_; clear C; rintro e w1 ⟨rfl, h1⟩))
    refine leaves_cons (f := 61) (args := #[]) (by simp) (by simp [go_sem]) ?_
    refine (work_idle _).mono ?_
    rintro e u' w2 ⟨rfl, rfl, hw⟩
    obtain rfl := hw.symm
    simp [Leaves, settle, results, Try.results49, go_sem, h1]
end Go.Proofs.Ytglppcoohojmpaa.Ma
