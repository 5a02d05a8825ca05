import Derived.Test.YtnapnhmmopajfaaGreatJ14
import Derived.Laws.Rows
import Derived.Laws.Tables
/-
  THE DEQUE's TASKS: Point, Answer, EndHere, tellEmpty, end (made by mk_dm.py).
-/
namespace Go.Proofs.YtnapnhmmopajfaaGreat.Dm
open Go.RowKit Mr Me Ma Gm
set_option linter.unusedVariables false
set_option linter.unusedSimpArgs false
set_option maxRecDepth 100000
section
variable {W0 : World} {U0 S0 X0 : Nat → Prop} {p : Ph} {i : Nat} {now : Int} {X : Nat → Obj → Prop} {s : Ss} {W : World} {sp : Bool}
/-- What stands behind a point, an answer. -/
def Ss.pts (s : Ss) (c : Nat) (cl : Cl) (m : Int) : Ss := { s with cls := s.cls.set c { cl with pt := m } }
def Ss.ans (s : Ss) (i : Nat) (t : Th) (ak av : Int) : Ss := { s with ths := s.ths.set i { t with ak := ak, av := av } }
theorem PT (t : Th) (c : Nat) (hcall : t.call = c) (cl : Cl) : Hid (∀ (X : Nat → Obj → Prop) (sp : Bool) (s : Ss) (W : World) (m : Int), Hid (D W0 U0 S0 X0 p i now X sp s W) → s.ths[i]? = some t → s.cls[c]? = some cl → Calls Tryz.prog 75 #[.pointer (some ⟨p.bd, 0, none⟩), .int .i64 m] W fun e w' => e = .returned (.tuple #[]) ∧ Hid (D W0 U0 S0 X0 p i now X sp (Ss.pts s c cl m) w')) :=
  Mr.hid (fun X sp s W m h ht hc => by
    refine (point_any h.out t ht c hcall cl hc m).mono ?_
    rintro e w' ⟨rfl, h'⟩
    exact ⟨rfl, Mr.hid h'⟩)
theorem AN (t : Th) : Hid (∀ (X : Nat → Obj → Prop) (sp : Bool) (s : Ss) (W : World) (ak av : Int), Hid (D W0 U0 S0 X0 p i now X sp s W) → s.ths[i]? = some t → Calls Tryz.prog 81 #[.pointer (some ⟨p.bd, 0, none⟩), .agg #[.int .i64 ak, .int .i64 av]] W fun e w' => e = .returned (.tuple #[]) ∧ Hid (D W0 U0 S0 X0 p i now X sp (Ss.ans s i t ak av) w')) :=
  Mr.hid (fun X sp s W ak av h ht => by
    refine (answer_any h.out t ht ak av).mono ?_
    rintro e w' ⟨rfl, h'⟩
    exact ⟨rfl, Mr.hid h'⟩)
theorem NW : Hid (∀ (X : Nat → Obj → Prop) (sp : Bool) (s : Ss) (W : World), Hid (D W0 U0 S0 X0 p i now X sp s W) → Calls Tryz.prog 76 #[.pointer (some ⟨p.bd, 0, none⟩)] W fun e w' => e = .returned (.int .i64 now) ∧ w' = W) :=
  Mr.hid (fun X sp s W h => now_desk h.out.dk)
theorem pts_ths (s : Ss) (c : Nat) (cl : Cl) (m : Int) : (Ss.pts s c cl m).ths = s.ths := rfl
set_option maxHeartbeats 2000000 in
theorem here_any {b : Nat} {cs : Array Value} {ty : TypeId} (h : D W0 U0 S0 X0 p i now X sp s W) (hX : X b (.cells cs ty (0, 0))) {f b' : Nat} (hcs : cs[1]? = some (fnv f b')) (h0 : X0 b ∨ W0.heap.size ≤ b) (t : Th) (ht : s.ths[i]? = some t) (c : Nat) (hcall : t.call = c) (cl : Cl) (hc : s.cls[c]? = some cl) (ak : Int) :
    Calls Tryz.prog 72 #[.pointer (some ⟨b, 0, none⟩), .pointer (some ⟨p.bd, 0, none⟩), .int .i64 ak] W fun e w' => e = .returned (.tuple #[]) ∧ D W0 U0 S0 X0 p i now (Xp X b (.cells (cs.setIfInBounds 1 .nilFunc) ty (0, 0))) sp (Ss.ans (Ss.pts s c cl now) i t ak 0) w' := by
  have P1 := (PT (W0 := W0) (U0 := U0) (S0 := S0) (X0 := X0) (p := p) (i := i) (now := now) t c hcall cl).out X sp s W now (Mr.hid h) ht hc
  have N1 := (NW (W0 := W0) (U0 := U0) (S0 := S0) (X0 := X0) (p := p) (i := i) (now := now)).out X sp s W (Mr.hid h)
  have A1 := fun W' h' => (AN (W0 := W0) (U0 := U0) (S0 := S0) (X0 := X0) (p := p) (i := i) (now := now) t).out X sp (Ss.pts s c cl now) W' ak 0 h' ht
  have cw : Hid (∀ (s' : Ss) (w1 : World), Hid (D W0 U0 S0 X0 p i now X sp s' w1) → w1.cell? ⟨b, 1, none⟩ = some (.func (.func f) #[.pointer (some ⟨b', 0, none⟩)] #[]) ∧ w1.frozen? ⟨b, 1, none⟩ = false) := Mr.hid (fun s' w1 h1 => by
    have a1 := h1.out.at hX
    exact ⟨by rw [cell_at a1]; exact hcs, froz_at a1 1⟩)
  have fin : Hid (∀ (s' : Ss) (w1 : World), Hid (D W0 U0 S0 X0 p i now X sp s' w1) → D W0 U0 S0 X0 p i now (Xp X b (.cells (cs.setIfInBounds 1 .nilFunc) ty (0, 0))) sp s' (w1.setCell ⟨b, 1, none⟩ .nilFunc)) := Mr.hid (fun s' w1 h1 => dput (dself h1.out hX) 1 .nilFunc h0)
  generalize Ss.pts s c cl now = s1 at *
  generalize Ss.ans s1 i t ak 0 = s2 at *
  clear h hX h0 ht hc hcall hcs
  go_enter Tryz.func72, Tryz.ntmps72
  go_wp2_with (first | (go_at_call 76; refine N1.mono ?_; clear N1; rintro e w1 ⟨rfl, hw⟩; obtain rfl := hw.symm) | (go_at_call 75; refine P1.mono ?_; clear P1; rintro e w1 ⟨rfl, h1⟩; have A2 := A1 _ h1; clear A1) | (go_at_call 81; refine A2.mono ?_; clear A2; rintro e w2 ⟨rfl, h2⟩; obtain ⟨g1, gz⟩ := cw.out _ _ h2))
  go_end0
  exact ⟨rfl, fin.out _ _ h2⟩
theorem push_c {W : World} {b f b' bc : Nat} {v bt : Int} (h : W.heap[b]? = some (pushO (fnv f b') bc v bt)) : W.cell? ⟨b, 0, none⟩ = some .nilFunc ∧ W.cell? ⟨b, 1, none⟩ = some (.func (.func f) #[.pointer (some ⟨b', 0, none⟩)] #[]) ∧ W.cell? ⟨b, 2, none⟩ = some (.pointer (some ⟨bc, 0, none⟩)) ∧ W.cell? ⟨b, 3, none⟩ = some (.int .i64 v) ∧ W.cell? ⟨b, 4, none⟩ = some (.int .i64 bt) ∧ ∀ o, W.frozen? ⟨b, o, none⟩ = false :=
  ⟨cell_at h 0, cell_at h 1, cell_at h 2, cell_at h 3, cell_at h 4, froz_at h⟩
theorem take_c {W : World} {b f b' bc : Nat} {l t v : Int} (h : W.heap[b]? = some (takeO (fnv f b') bc l t v)) : W.cell? ⟨b, 0, none⟩ = some .nilFunc ∧ W.cell? ⟨b, 1, none⟩ = some (.func (.func f) #[.pointer (some ⟨b', 0, none⟩)] #[]) ∧ W.cell? ⟨b, 2, none⟩ = some (.pointer (some ⟨bc, 0, none⟩)) ∧ W.cell? ⟨b, 3, none⟩ = some (.int .i64 l) ∧ W.cell? ⟨b, 4, none⟩ = some (.int .i64 t) ∧ W.cell? ⟨b, 5, none⟩ = some (.int .i64 v) ∧ ∀ o, W.frozen? ⟨b, o, none⟩ = false :=
  ⟨cell_at h 0, cell_at h 1, cell_at h 2, cell_at h 3, cell_at h 4, cell_at h 5, froz_at h⟩
theorem steal_c {W : World} {b f b' bc : Nat} {t v : Int} (h : W.heap[b]? = some (stealO (fnv f b') bc t v)) : W.cell? ⟨b, 0, none⟩ = some .nilFunc ∧ W.cell? ⟨b, 1, none⟩ = some (.func (.func f) #[.pointer (some ⟨b', 0, none⟩)] #[]) ∧ W.cell? ⟨b, 2, none⟩ = some (.pointer (some ⟨bc, 0, none⟩)) ∧ W.cell? ⟨b, 3, none⟩ = some (.int .i64 t) ∧ W.cell? ⟨b, 4, none⟩ = some (.int .i64 v) ∧ ∀ o, W.frozen? ⟨b, o, none⟩ = false :=
  ⟨cell_at h 0, cell_at h 1, cell_at h 2, cell_at h 3, cell_at h 4, froz_at h⟩
theorem com_c {W : World} {b r : Nat} {lw : Option Addr} (h : W.heap[b]? = some (comO r lw)) : W.cell? ⟨b, 0, none⟩ = some (.int .i64 (r : Int)) ∧ W.cell? ⟨b, 1, none⟩ = some (.pointer lw) ∧ ∀ o, W.frozen? ⟨b, o, none⟩ = false :=
  ⟨cell_at h 0, cell_at h 1, froz_at h⟩
theorem low_c {W : World} {b : Nat} {m k : Int} (h : W.heap[b]? = some (lowO m k)) : W.cell? ⟨b, 0, none⟩ = some (.int .i64 m) ∧ W.cell? ⟨b, 1, none⟩ = some (.int .i64 k) ∧ ∀ o, W.frozen? ⟨b, o, none⟩ = false :=
  ⟨cell_at h 0, cell_at h 1, froz_at h⟩
def ansO (k x : Int) : Obj := .cells #[.int .i64 k, .int .i64 x] 59 (0, 0)
theorem va_any (x : Int) (w : World) : Calls Tryz.prog 96 #[.int .i64 x] w fun e w' => e = .returned (.agg #[.int .i64 2, .int .i64 x]) ∧ w' = w.alloc (ansO 2 x) := by
  go_enter Tryz.func96, Tryz.ntmps96
  go_wp2
  exact bodyPost_ret (results_cell_row rfl _ _ (w.heap.size) 59 #[.int .i64 2, .int .i64 x] (0, 0) _ rfl (heap_alloc_new w _) (by rfl) rfl (by rfl)) rfl ⟨rfl, rfl⟩
theorem cel_any (r : Nat) (k : Nat) (hr : 1 ≤ r) (hr2 : r ≤ 1000) (w : World) : Calls Tryz.prog 82 #[.int .i64 (r : Int), .int .i64 (k : Int)] w fun e w' => e = .returned (.int .i64 ((cel r (k : Int) : Nat) : Int)) ∧ w' = w := by
  have e1 : (Int.tmod (k : Int) (r : Int)) = ((k % r : Nat) : Int) := by rw [Int.tmod_eq_emod_of_nonneg (by omega)]; simp
  have hm := Nat.mod_lt k (show 0 < r by omega)
  have e2 : IntKind.i64.wrap (2 + ((k % r : Nat) : Int)) = 2 + ((k % r : Nat) : Int) := i64w _ (by omega) (by omega)
  have e0 : ((cel r (k : Int) : Nat) : Int) = 2 + ((k % r : Nat) : Int) := by unfold cel; simp
  have e3 : (r : Int) ≠ 0 := by omega
  have e4 : ((r : Int) == 0) = false := by first | (simp; done) | (simp; omega)
  have e5 : ((r : Int) == -1) = false := by first | (simp; done) | (simp; omega)
  have e6 : (k : Int) % (r : Int) = ((k % r : Nat) : Int) := by simp
  rw [e0]
  generalize ((k % r : Nat) : Int) = m at *
  clear hm e0
  go_enter Tryz.func82, Tryz.ntmps82
  go_wp2
  go_ret
  exact ⟨rfl, rfl⟩
set_option maxHeartbeats 2000000 in
theorem tell_any (h : D W0 U0 S0 X0 p i now X sp s W) (t : Th) (ht : s.ths[i]? = some t) (c : Nat) (hcall : t.call = c) (cl : Cl) (hc : s.cls[c]? = some cl) (a : Value) :
    Calls Tryz.prog 87 #[a, .pointer (some ⟨p.bd, 0, none⟩)] W fun e w' => e = .returned (.tuple #[]) ∧ D W0 U0 S0 X0 p i now X sp (Ss.ans (Ss.pts s c cl now) i t 3 0) w' := by
  have P1 := (PT (W0 := W0) (U0 := U0) (S0 := S0) (X0 := X0) (p := p) (i := i) (now := now) t c hcall cl).out X sp s W now (Mr.hid h) ht hc
  have N1 := (NW (W0 := W0) (U0 := U0) (S0 := S0) (X0 := X0) (p := p) (i := i) (now := now)).out X sp s W (Mr.hid h)
  have A1 := fun W' h' => (AN (W0 := W0) (U0 := U0) (S0 := S0) (X0 := X0) (p := p) (i := i) (now := now) t).out X sp (Ss.pts s c cl now) W' 3 0 h' ht
  generalize Ss.pts s c cl now = s1 at *
  generalize Ss.ans s1 i t 3 0 = s2 at *
  clear h ht hc hcall
  go_enter Tryz.func87, Tryz.ntmps87
  go_wp2_with (first | (go_at_call 76; refine N1.mono ?_; clear N1; rintro e w1 ⟨rfl, hw⟩; obtain rfl := hw.symm) | (go_at_call 75; refine P1.mono ?_; clear P1; rintro e w1 ⟨rfl, h1⟩; have A2 := A1 _ h1; clear A1) | (go_at_call 81; refine A2.mono ?_; clear A2; rintro e w2 ⟨rfl, h2⟩))
  go_end0
  exact ⟨rfl, h2.out⟩
set_option maxHeartbeats 2000000 in
theorem end_take {b bc r f b' : Nat} {lw : Option Addr} {l t v : Int} (h : D W0 U0 S0 X0 p i now X sp s W) (hX : X b (takeO (fnv f b') bc l t v)) (hC : X bc (comO r lw)) (hbc : b ≠ bc) (h0 : X0 b ∨ W0.heap.size ≤ b) (hc0 : X0 bc ∨ W0.heap.size ≤ bc) :
    Calls Tryz.prog 95 #[.pointer (some ⟨b, 0, none⟩)] W fun e w' => e = .returned (.tuple #[]) ∧ D W0 U0 S0 X0 p i now (Xp (Xp X bc (comO r none)) b (takeO .nilFunc bc l t v)) sp s w' := by
  obtain ⟨a0, a1, a2, a3, a4, a5, az⟩ := take_c (h.at hX)
  obtain ⟨k0, k1, kz⟩ := com_c (h.at hC)
  have fin : Hid (D W0 U0 S0 X0 p i now (Xp (Xp X bc (comO r none)) b (takeO .nilFunc bc l t v)) sp s ((W.setCell ⟨bc, 1, none⟩ (.pointer none)).setCell ⟨b, 1, none⟩ .nilFunc)) := Mr.hid (dput (dself (dput (dself h hC) 1 (.pointer none) hc0) (.inr ⟨hbc, hX⟩)) 1 .nilFunc h0)
  clear h hX hC h0 hc0
  go_enter Tryz.func95, Tryz.ntmps95
  go_wp2
  go_end0
  exact ⟨rfl, fin.out⟩
end
end Go.Proofs.YtnapnhmmopajfaaGreat.Dm
/-
  THE DEQUE's TASKS: a push (made by mk_dm.py).
-/
namespace Go.Proofs.YtnapnhmmopajfaaGreat.Dm
open Go.RowKit Mr Me Ma Gm
set_option linter.unusedVariables false
set_option linter.unusedSimpArgs false
set_option maxRecDepth 100000
section
variable {W0 : World} {U0 S0 X0 : Nat → Prop} {p : Ph} {i : Nat} {now : Int} {X : Nat → Obj → Prop} {s : Ss} {W : World} {sp : Bool}
set_option maxHeartbeats 4000000 in
theorem push1 {v bt : Int} (h : D W0 U0 S0 X0 p i now X false s W) (hb : Me.Roomy s.lg s.ah) {b bc r : Nat} {lw : Option Addr} (hX : X b (pushO (fnv 48 b) bc v bt)) (hC : X bc (comO r lw)) (hbc : b ≠ bc) (h0 : X0 b ∨ W0.heap.size ≤ b) (hl : s.ws.length = 2 + r)  :
    Calls Tryz.prog 48 #[.pointer (some ⟨b, 0, none⟩), .pointer (some ⟨p.bd, 0, none⟩)] W fun e w' => e = .returned (.tuple #[]) ∧ D W0 U0 S0 X0 p i now (Xp X b (pushO (fnv 61 b) bc v (wrap64 (rd s.ws 1)))) true (s.loads i now 1) w' := by
  have L := load_any h hb 1 (by rw [hl]; omega)
  have CT : Hid (∀ (sp' : Bool) (s' : Ss) (w1 : World), D W0 U0 S0 X0 p i now X sp' s' w1 → w1.heap[b]? = some (pushO (fnv 48 b) bc v bt)) := Mr.hid (fun sp' s' w1 h1 => h1.at hX)
  have CC : Hid (∀ (sp' : Bool) (s' : Ss) (w1 : World), D W0 U0 S0 X0 p i now X sp' s' w1 → w1.heap[bc]? = some (comO r lw)) := Mr.hid (fun sp' s' w1 h1 => h1.at hC)
  have fin : Hid (∀ w1, D W0 U0 S0 X0 p i now X true (s.loads i now 1) w1 → ∀ y, D W0 U0 S0 X0 p i now (Xp X b (.cells ((#[.nilFunc, fnv 48 b, .pointer (some ⟨bc, 0, none⟩), .int .i64 v, .int .i64 bt].setIfInBounds 4 (.int .i64 y)).setIfInBounds 1 (fnv 61 b)) 132 (0, 0))) true (s.loads i now 1) ((w1.setCell ⟨b, 4, none⟩ (.int .i64 y)).setCell ⟨b, 1, none⟩ (fnv 61 b))) := Mr.hid (fun w1 h1 y => dput (dput (dself h1 hX) 4 (.int .i64 y) h0) 1 (fnv 61 b) h0)
  unfold fnv at fin
  obtain ⟨a0, a1, a2, a3, a4, az⟩ := push_c (CT.out _ _ _ h)
  obtain ⟨k0, k1, kz⟩ := com_c (CC.out _ _ _ h)
  generalize wrap64 (rd s.ws 1) = y at *
  generalize s.loads i now 1 = s1 at *
  replace h := Mr.hid h
  clear hl hb
  go_enter Tryz.func48, Tryz.ntmps48
  go_wp2_with (go_at_call 60; refine L.mono ?_; rintro e w1 ⟨rfl, h1⟩; clear L; obtain ⟨aa0, aa1, aa2, aa3, aa4, aaz⟩ := push_c (CT.out _ _ _ h1); have fin1 := Mr.hid (fin.out w1 h1 (y)); clear fin; replace h1 := Mr.hid h1)
  go_end0
  exact ⟨rfl, fin1.out⟩
set_option maxHeartbeats 4000000 in
theorem push4 {v bt : Int} (h : D W0 U0 S0 X0 p i now X false s W) (hb : Me.Roomy s.lg s.ah) {b bc r : Nat} {lw : Option Addr} (hX : X b (pushO (fnv 83 b) bc v bt)) (hC : X bc (comO r lw)) (hbc : b ≠ bc) (h0 : X0 b ∨ W0.heap.size ≤ b) (hl : s.ws.length = 2 + r) (r0 : -1 ≤ bt ∧ bt ≤ 1000000) (t0 : Th) (ht : s.ths[i]? = some t0) (c : Nat) (hcall : t0.call = c) (cl : Cl) (hc : s.cls[c]? = some cl) :
    Calls Tryz.prog 83 #[.pointer (some ⟨b, 0, none⟩), .pointer (some ⟨p.bd, 0, none⟩)] W fun e w' => e = .returned (.tuple #[]) ∧ D W0 U0 S0 X0 p i now (Xp X b (pushO .nilFunc bc v bt)) true (Ss.ans (Ss.pts (s.stores i now 1 (nU (bt + 1))) c cl now) i t0 1 0) w' := by
  have L := store_any h hb 1 (by rw [hl]; omega) (bt + 1)
  have e1 : IntKind.i64.wrap (bt + 1) = bt + 1 := i64w _ (by omega) (by omega)
  obtain ⟨a0, a1, a2, a3, a4, az⟩ := push_c (h.at hX)
  have EH : Hid (∀ w1, D W0 U0 S0 X0 p i now X true (s.stores i now 1 (nU (bt + 1))) w1 → _) := Mr.hid (fun w1 h1 => here_any h1 hX (f := 83) (b' := b) rfl h0 t0 ht c hcall cl hc 1)
  replace h := Mr.hid h
  clear hl hb ht hc hcall r0
  go_enter Tryz.func83, Tryz.ntmps83
  go_wp2_with (first | (go_at_call 74; refine L.mono ?_; clear L; rintro e w1 ⟨rfl, h1⟩; have E1 := EH.out w1 h1; replace h1 := Mr.hid h1) | (go_at_call 72; refine E1.mono ?_; clear E1; rintro e w2 ⟨rfl, h2⟩; replace h2 := Mr.hid h2))
  go_end0
  exact ⟨rfl, h2.out⟩
set_option maxHeartbeats 4000000 in
theorem push2f {v bt : Int} (h : D W0 U0 S0 X0 p i now X false s W) (hb : Me.Roomy s.lg s.ah) {b bc r : Nat} {lw : Option Addr} (hX : X b (pushO (fnv 61 b) bc v bt)) (hC : X bc (comO r lw)) (hbc : b ≠ bc) (h0 : X0 b ∨ W0.heap.size ≤ b) (hl : s.ws.length = 2 + r) (r0 : -1 ≤ bt ∧ bt ≤ 1000000) (r1 : -1 ≤ wrap64 (rd s.ws 0) ∧ wrap64 (rd s.ws 0) ≤ 1000000) (hy : (r : Int) ≤ bt - wrap64 (rd s.ws 0)) (t0 : Th) (ht : s.ths[i]? = some t0) (c : Nat) (hcall : t0.call = c) (cl : Cl) (hc : s.cls[c]? = some cl) :
    Calls Tryz.prog 61 #[.pointer (some ⟨b, 0, none⟩), .pointer (some ⟨p.bd, 0, none⟩)] W fun e w' => e = .returned (.tuple #[]) ∧ D W0 U0 S0 X0 p i now (Xp X b (pushO .nilFunc bc v bt)) true (Ss.ans (Ss.pts (s.loads i now 0) c cl now) i t0 4 0) w' := by
  have L := load_any h hb 0 (by rw [hl]; omega)
  have CT : Hid (∀ (sp' : Bool) (s' : Ss) (w1 : World), D W0 U0 S0 X0 p i now X sp' s' w1 → w1.heap[b]? = some (pushO (fnv 61 b) bc v bt)) := Mr.hid (fun sp' s' w1 h1 => h1.at hX)
  have CC : Hid (∀ (sp' : Bool) (s' : Ss) (w1 : World), D W0 U0 S0 X0 p i now X sp' s' w1 → w1.heap[bc]? = some (comO r lw)) := Mr.hid (fun sp' s' w1 h1 => h1.at hC)
  have EH : Hid (∀ w1, D W0 U0 S0 X0 p i now X true (s.loads i now 0) w1 → _) := Mr.hid (fun w1 h1 => here_any h1 hX (f := 61) (b' := b) rfl h0 t0 ht c hcall cl hc 4)
  obtain ⟨a0, a1, a2, a3, a4, az⟩ := push_c (CT.out _ _ _ h)
  obtain ⟨k0, k1, kz⟩ := com_c (CC.out _ _ _ h)
  have hd := Mr.hid h.drew
  have Ld := load_any h.drew hb 0 (by rw [hl]; omega)
  generalize wrap64 (rd s.ws 0) = y at *
  have e1 : IntKind.i64.wrap (bt - y) = bt - y := i64w _ (by omega) (by omega)
  have e2 : decide ((r : Int) ≤ bt - y) = true := by simp; omega
  generalize s.loads i now 0 = s1 at *
  replace h := Mr.hid h
  clear hl hb r0 r1 hy L ht hc hcall
  go_enter Tryz.func61, Tryz.ntmps61
  go_wp2
  go_region_held3 (fun w' => w'.cell? ⟨b, 2, none⟩ = some (.pointer (some ⟨bc, 0, none⟩)) ∧ w'.cell? ⟨b, 4, none⟩ = some (.int .i64 bt) ∧ w'.cell? ⟨bc, 0, none⟩ = some (.int .i64 (r : Int))) (go_keep)
    (first | (go_at_call 60; refine Ld.mono ?_; clear Ld; rintro e w1 ⟨rfl, h1⟩; obtain ⟨g0, g1, g2, g3, g4, gz⟩ := push_c (CT.out _ _ _ h1); obtain ⟨l0, l1, lz⟩ := com_c (CC.out _ _ _ h1); replace h1 := Mr.hid h1))
  have E1 := EH.out _ h1.out
  clear EH
  go_wp2_with (go_at_call 72; refine E1.mono ?_; clear E1; rintro e w2 ⟨rfl, h2⟩; replace h2 := Mr.hid h2)
  refine bodyPost_ret (results_none rfl _ _ _) rfl ?_
  exact ⟨rfl, h2.out⟩
set_option maxHeartbeats 4000000 in
theorem push2n {v bt : Int} (h : D W0 U0 S0 X0 p i now X false s W) (hb : Me.Roomy s.lg s.ah) {b bc r : Nat} {lw : Option Addr} (hX : X b (pushO (fnv 61 b) bc v bt)) (hC : X bc (comO r lw)) (hbc : b ≠ bc) (h0 : X0 b ∨ W0.heap.size ≤ b) (hl : s.ws.length = 2 + r) (r0 : -1 ≤ bt ∧ bt ≤ 1000000) (r1 : -1 ≤ wrap64 (rd s.ws 0) ∧ wrap64 (rd s.ws 0) ≤ 1000000) (hy : ¬ (r : Int) ≤ bt - wrap64 (rd s.ws 0)) :
    Calls Tryz.prog 61 #[.pointer (some ⟨b, 0, none⟩), .pointer (some ⟨p.bd, 0, none⟩)] W fun e w' => e = .returned (.tuple #[]) ∧ D W0 U0 S0 X0 p i now (Xp X b (pushO (fnv 73 b) bc v bt)) true (s.loads i now 0) w' := by
  have L := load_any h hb 0 (by rw [hl]; omega)
  have CT : Hid (∀ (sp' : Bool) (s' : Ss) (w1 : World), D W0 U0 S0 X0 p i now X sp' s' w1 → w1.heap[b]? = some (pushO (fnv 61 b) bc v bt)) := Mr.hid (fun sp' s' w1 h1 => h1.at hX)
  have CC : Hid (∀ (sp' : Bool) (s' : Ss) (w1 : World), D W0 U0 S0 X0 p i now X sp' s' w1 → w1.heap[bc]? = some (comO r lw)) := Mr.hid (fun sp' s' w1 h1 => h1.at hC)
  have fin : Hid (∀ w1, D W0 U0 S0 X0 p i now X true (s.loads i now 0) w1 → _) := Mr.hid (fun w1 h1 => dput (dself h1 hX) 1 (fnv 73 b) h0)
  obtain ⟨a0, a1, a2, a3, a4, az⟩ := push_c (CT.out _ _ _ h)
  obtain ⟨k0, k1, kz⟩ := com_c (CC.out _ _ _ h)
  have hd := Mr.hid h.drew
  have Ld := load_any h.drew hb 0 (by rw [hl]; omega)
  generalize wrap64 (rd s.ws 0) = y at *
  have e1 : IntKind.i64.wrap (bt - y) = bt - y := i64w _ (by omega) (by omega)
  have e2 : decide ((r : Int) ≤ bt - y) = false := by simp; omega
  generalize s.loads i now 0 = s1 at *
  replace h := Mr.hid h
  clear hl hb r0 r1 hy L
  go_enter Tryz.func61, Tryz.ntmps61
  go_wp2
  go_region_held3 (fun w' => w'.cell? ⟨b, 2, none⟩ = some (.pointer (some ⟨bc, 0, none⟩)) ∧ w'.cell? ⟨b, 4, none⟩ = some (.int .i64 bt) ∧ w'.cell? ⟨bc, 0, none⟩ = some (.int .i64 (r : Int))) (go_keep)
    (first | (go_at_call 60; refine Ld.mono ?_; clear Ld; rintro e w1 ⟨rfl, h1⟩; obtain ⟨g0, g1, g2, g3, g4, gz⟩ := push_c (CT.out _ _ _ h1); obtain ⟨l0, l1, lz⟩ := com_c (CC.out _ _ _ h1); replace h1 := Mr.hid h1))
  have fin1 := Mr.hid (fin.out _ h1.out)
  clear fin
  unfold fnv at fin1
  go_wp2
  go_end0
  exact ⟨rfl, fin1.out⟩
set_option maxHeartbeats 4000000 in
theorem push3 {v : Int} {k : Nat} (h : D W0 U0 S0 X0 p i now X false s W) (hb : Me.Roomy s.lg s.ah) {b bc r : Nat} {lw : Option Addr} (hX : X b (pushO (fnv 73 b) bc v (k : Int))) (hC : X bc (comO r lw)) (hbc : b ≠ bc) (h0 : X0 b ∨ W0.heap.size ≤ b) (hl : s.ws.length = 2 + r) (hr1 : 1 ≤ r) (hr2 : r ≤ 1000) (hk : k ≤ 1000000) :
    Calls Tryz.prog 73 #[.pointer (some ⟨b, 0, none⟩), .pointer (some ⟨p.bd, 0, none⟩)] W fun e w' => e = .returned (.tuple #[]) ∧ D W0 U0 S0 X0 p i now (Xp X b (pushO (fnv 83 b) bc v (k : Int))) true (s.stores i now (cel r (k : Int)) (nU v)) w' := by
  have hce : cel r (k : Int) < s.ws.length := by rw [hl]; unfold cel; have := Nat.mod_lt k (show 0 < r by omega); simp; omega
  have Ld := store_any h.drew hb (cel r (k : Int)) hce v
  have CT : Hid (∀ (sp' : Bool) (s' : Ss) (w1 : World), D W0 U0 S0 X0 p i now X sp' s' w1 → w1.heap[b]? = some (pushO (fnv 73 b) bc v (k : Int))) := Mr.hid (fun sp' s' w1 h1 => h1.at hX)
  have CC : Hid (∀ (sp' : Bool) (s' : Ss) (w1 : World), D W0 U0 S0 X0 p i now X sp' s' w1 → w1.heap[bc]? = some (comO r lw)) := Mr.hid (fun sp' s' w1 h1 => h1.at hC)
  have fin : Hid (∀ w1, D W0 U0 S0 X0 p i now X true (s.stores i now (cel r (k : Int)) (nU v)) w1 → _) := Mr.hid (fun w1 h1 => dput (dself h1 hX) 1 (fnv 83 b) h0)
  obtain ⟨a0, a1, a2, a3, a4, az⟩ := push_c (CT.out _ _ _ h)
  obtain ⟨k0, k1, kz⟩ := com_c (CC.out _ _ _ h)
  have CE := Mr.hid (cel_any r k hr1 hr2)
  generalize s.stores i now (cel r (k : Int)) (nU v) = s1 at *
  generalize ((cel r (k : Int) : Nat) : Int) = ce at *
  replace h := Mr.hid h
  clear hl hb hce hr1 hr2 hk
  go_enter Tryz.func73, Tryz.ntmps73
  go_wp2
  go_region_held3 (fun w' => w'.cell? ⟨b, 2, none⟩ = some (.pointer (some ⟨bc, 0, none⟩)) ∧ w'.cell? ⟨b, 3, none⟩ = some (.int .i64 v) ∧ w'.cell? ⟨b, 4, none⟩ = some (.int .i64 (k : Int)) ∧ w'.cell? ⟨bc, 0, none⟩ = some (.int .i64 (r : Int))) (go_keep)
    (first | (go_at_call 82; refine (CE.out _).mono ?_; rintro e w9 ⟨rfl, hw9⟩; obtain rfl := hw9.symm) | (go_at_call 74; refine Ld.mono ?_; clear Ld; rintro e w1 ⟨rfl, h1⟩; obtain ⟨g0, g1, g2, g3, g4, gz⟩ := push_c (CT.out _ _ _ h1); obtain ⟨l0, l1, lz⟩ := com_c (CC.out _ _ _ h1); replace h1 := Mr.hid h1))
  have fin1 := Mr.hid (fin.out _ h1.out)
  clear fin
  unfold fnv at fin1
  go_wp2
  go_end0
  exact ⟨rfl, fin1.out⟩
end
end Go.Proofs.YtnapnhmmopajfaaGreat.Dm
