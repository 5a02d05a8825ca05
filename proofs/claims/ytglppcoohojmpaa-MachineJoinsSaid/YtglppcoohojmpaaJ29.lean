import Derived.Test.YtglppcoohojmpaaJ28
/-
  THE DOCUMENT's MACHINE: Play of a script that may be.
-/
namespace Go.Proofs.Ytglppcoohojmpaa.Rf
open Go.RowKit Mr Me Ma
set_option maxRecDepth 100000 in
set_option maxHeartbeats 4000000 in
theorem Play_ok (w : World) (nth : Nat) (h1 : 1 ≤ nth) (h2 : nth ≤ 16) (a : Option Addr) (n cap : Nat) (ws : List Int) (hs : Src w a n cap ws) (hn : n ≤ 8192) (am : Option Addr) (nm cm : Nat) (ms : List Mv) (hm : MvAt w am nm ms) (hnm : nm ≤ 65536) :
    Calls Try.prog 22 #[.int .i64 (nth : Int), .slice a n cap, .slice am nm cm] w fun e w' => ∃ v1 v2 v4, e = .returned (.tuple #[runV v1 v2 (.slice none 0 0) v4, .int .i64 0]) ∧ Has w' (fun k => w.heap.size ≤ k) 78 9 v1 ((Pm.new nth ws).play ms).cls.length (clc ((Pm.new nth ws).play ms).cls) ∧ Has w' (fun k => w.heap.size ≤ k) 128 7 v2 ((Pm.new nth ws).play ms).lg.length (lgc ((Pm.new nth ws).play ms).lg) ∧ Has w' (fun k => w.heap.size ≤ k) 59 1 v4 ((Pm.new nth ws).play ms).ws.length (wrd ((Pm.new nth ws).play ms).ws) ∧ Below w.heap.size w w' := by
  have hwn := hs.1
  have hB0 := (Below.refl w.heap.size w).alloc (Nat.le_refl _) (.cells #[.slice none 0 0, .slice none 0 0, .slice none 0 0, .slice none 0 0] 53)
  have hbx0 : (w.alloc (.cells #[.slice none 0 0, .slice none 0 0, .slice none 0 0, .slice none 0 0] 53)).heap[w.heap.size]? = some (.cells #[.slice none 0 0, .slice none 0 0, .slice none 0 0, .slice none 0 0] 53 (0, 0)) := heap_alloc_new w _
  have hsz0 : (w.alloc (.cells #[.slice none 0 0, .slice none 0 0, .slice none 0 0, .slice none 0 0] 53)).heap.size = w.heap.size + 1 := by simp
  have hx0 : Bx w (w.alloc (.cells #[.slice none 0 0, .slice none 0 0, .slice none 0 0, .slice none 0 0] 53)) := ⟨hB0, hbx0⟩
  have O := Own_any (w.alloc (.cells #[.slice none 0 0, .slice none 0 0, .slice none 0 0, .slice none 0 0] 53))
  have NW := fun (w1 : World) (B : Below w.heap.size w w1) (g1 : Nat) (g2 : Nat) (c1 : w1.heap[g1]? = some (.cells (ownCode.flatMap Ins.cells).toArray 112 (0, 0))) => New_any w1 nth (by omega) a n cap ws (hs.below B) hn (gd := g1) (cd := 13) (ne := 2) (code := ownCode) (S := fun _ => True) (ae := some ⟨g2, 0, none⟩) (ce := 2) (has_code trivial c1) own_kinds
  have ST := fun (w1 w2 : World) (b g1 g2 : Nat) (vw vlb vt : Value) (k1 : _) (k2 : _) (k3 : w.heap.size < g1) (k4 : w.heap.size < g2) (k5 : w.heap.size + 1 ≤ w1.heap.size) (N : Nw w1 w2 nth b ws ownCode (.slice (some ⟨g1, 0, none⟩) 13 13) (.slice (some ⟨g2, 0, none⟩) 2 2) vw vlb vt) => start_sm (B := w.heap.size + 1) h1 (by omega) k1 k2 k3 k4 k5 N
  have d1 : decide ((nth : Int) < 1) = false := by simp; omega
  have d2 : decide (16 < (nth : Int)) = false := by simp; omega
  have d4 : decide (8192 < (n : Int)) = false := by simp; omega
  have d3 : decide (65536 < (nm : Int)) = false := by simp; omega
  have RN := fun (w2 : World) (q : Rc) (U : Nat → Prop) (S : Sm w2 U q (Pm.new nth ws)) (hx : Bx w w2) (hU : ∀ k, U k → w.heap.size + 1 ≤ k) => (Run_any (W0 := w) S hx.1 (fun k hk => Nat.le_of_succ_le (hU k hk)) am nm cm ms hm hnm).mono (R' := fun e w' => ∃ v1 v2 v4, e = .returned (runV v1 v2 (.slice none 0 0) v4) ∧ Has w' (fun k => w2.heap.size ≤ k) 78 9 v1 ((Pm.new nth ws).play ms).cls.length (clc ((Pm.new nth ws).play ms).cls) ∧ Has w' (fun k => w2.heap.size ≤ k) 128 7 v2 ((Pm.new nth ws).play ms).lg.length (lgc ((Pm.new nth ws).play ms).lg) ∧ Has w' (fun k => w2.heap.size ≤ k) 59 1 v4 ((Pm.new nth ws).play ms).ws.length (wrd ((Pm.new nth ws).play ms).ws) ∧ Bx w w' ∧ w.heap.size < w2.heap.size) (by
    rintro e w' ⟨v1, v2, v4, rfl, q1, q2, q3, q4, q5⟩
    have hl : w.heap.size < w2.heap.size := (Array.getElem?_eq_some_iff.1 hx.2).1
    exact ⟨v1, v2, v4, rfl, q1, q2, q3, ⟨q5, (q4.block _ hl (fun e => by have := hU _ e; omega)).trans hx.2⟩, hl⟩)
  replace hwn := Mr.hid hwn
  replace hs := Mr.hid hs
  replace hm := Mr.hid hm
  replace hx0 := Mr.hid hx0
  replace O := Mr.hid O
  replace NW := Mr.hid NW
  replace ST := Mr.hid ST
  replace RN := Mr.hid RN
  clear hB0 hbx0
  go_enter Try.func22, Try.ntmps22
  go_wp2_with (first
    | (go_at_call 12; refine O.out.mono ?_; clear O; rintro e w1 ⟨g1, g2, rfl, l1, l2, c1, c2, hB1⟩; rw [hsz0] at l1 l2; have hx1 := hx0.out.below hB1; have hs1 := hB1.size; rw [hsz0] at hs1; have NW1 := Mr.hid (NW.out w1 hx1.1 g1 g2 c1); have ST1 := Mr.hid (fun (w2 : World) (b : Nat) (vw vlb vt : Value) => ST.out w1 w2 b g1 g2 vw vlb vt c1 c2 l1 l2 hs1); replace hx1 := Mr.hid hx1; clear NW ST hx0 hsz0 c1 c2 hB1 l1 l2)
    | (go_at_call 13; refine NW1.out.mono ?_; clear NW1; rintro e w2 ⟨b, vw, vlb, vt, rfl, N⟩; obtain ⟨q, U, hqb, hS, hU⟩ := ST1.out w2 b vw vlb vt N; have hx2 := hx1.out.below N.bel; have RN1 := Mr.hid (RN.out w2 q U hS hx2 hU); obtain rfl := hqb; replace hx2 := Mr.hid hx2; clear RN ST1 hx1 N hS hU)
    | (go_at_call 45; refine RN1.out.mono ?_; clear RN1; rintro e w6 ⟨v1, v2, v4, rfl, hv1, hv2, hv4, hx6, hl6⟩; obtain ⟨kc, kz⟩ := hx6.cells; have kc0 := kc 0 (by decide); have kc1 := kc 1 (by decide); have kc2 := kc 2 (by decide); have kc3 := kc 3 (by decide); clear kc; obtain ⟨p1, q1, rfl, _⟩ := hv1.form; obtain ⟨p2, q2, rfl, _⟩ := hv2.form; obtain ⟨p4, q4, rfl, _⟩ := hv4.form; replace hx6 := Mr.hid hx6; unfold runV))
  generalize hn1 : ((Pm.new nth ws).play ms).cls.length = n1 at *
  generalize hn2 : ((Pm.new nth ws).play ms).lg.length = n2 at *
  generalize hn4 : ((Pm.new nth ws).play ms).ws.length = n4 at *
  obtain ⟨W5, hW5⟩ : ∃ W5, (((w6.setCell ⟨w.heap.size, 0, none⟩ (.slice p1 n1 q1)).setCell ⟨w.heap.size, 1, none⟩ (.slice p2 n2 q2)).setCell ⟨w.heap.size, 2, none⟩ (.slice none 0 0)).setCell ⟨w.heap.size, 3, none⟩ (.slice p4 n4 q4) = W5 := ⟨_, rfl⟩
  have hb5 : W5.heap[w.heap.size]? = some (.cells #[.slice p1 n1 q1, .slice p2 n2 q2, .slice none 0 0, .slice p4 n4 q4] 53 (0, 0)) := by
    rw [← hW5, setBlk (setBlk (setBlk (setBlk hx6.out.2 0 _) 1 _) 2 _) 3 _]
    rfl
  have ho5 : ∀ k, k ≠ w.heap.size → W5.heap[k]? = w6.heap[k]? := fun k hk => by
    rw [← hW5, Below.heap_setCell _ _ _ k hk, Below.heap_setCell _ _ _ k hk, Below.heap_setCell _ _ _ k hk, Below.heap_setCell _ _ _ k hk]
  have hB5 : Below w.heap.size w W5 := by
    rw [← hW5]
    exact (((hx6.out.1.setCell (p := ⟨w.heap.size, 0, none⟩) (Nat.le_refl _) _).setCell (p := ⟨w.heap.size, 1, none⟩) (Nat.le_refl _) _).setCell (p := ⟨w.heap.size, 2, none⟩) (Nat.le_refl _) _).setCell (p := ⟨w.heap.size, 3, none⟩) (Nat.le_refl _) _
  have keep : ∀ {e size m : Nat} {v : Value} {xs : List Value}, Has w6 (fun k => w2.heap.size ≤ k) e size v m xs → Has W5 (fun k => w.heap.size ≤ k) e size v m xs := fun {e size m v xs} hh =>
    hh.kept (fun k hk => ho5 k (fun e' => by have := (hh.lt k hk).1; omega)) (fun k hk => by have := (hh.lt k hk).1; omega)
  have d0 : W5.cell? ⟨w.heap.size, 0, none⟩ = some (.slice p1 n1 q1) := by simp [World.cell?, hb5]
  have d1 : W5.cell? ⟨w.heap.size, 1, none⟩ = some (.slice p2 n2 q2) := by simp [World.cell?, hb5]
  have d2 : W5.cell? ⟨w.heap.size, 2, none⟩ = some (.slice none 0 0) := by simp [World.cell?, hb5]
  have d3' : W5.cell? ⟨w.heap.size, 3, none⟩ = some (.slice p4 n4 q4) := by simp [World.cell?, hb5]
  rw [hW5]
  refine bodyPost_ret (v := .tuple #[runV (.slice p1 n1 q1) (.slice p2 n2 q2) (.slice none 0 0) (.slice p4 n4 q4), .int .i64 0]) (by simp [results, Try.f22, go_sem, d0, d1, d2, d3', runV]) rfl ?_
  exact ⟨_, _, _, rfl, keep hv1, keep hv2, keep hv4, hB5⟩
end Go.Proofs.Ytglppcoohojmpaa.Rf
/-
  THE DOCUMENT's MACHINE: Play's refusals.
-/
namespace Go.Proofs.Ytglppcoohojmpaa.Rf
open Go.RowKit Mr Me Ma
def nil4 : Value := runV (.slice none 0 0) (.slice none 0 0) (.slice none 0 0) (.slice none 0 0)
theorem nil4_cells (w : World) : (w.alloc (.cells #[.slice none 0 0, .slice none 0 0, .slice none 0 0, .slice none 0 0] 53)).cell? ⟨w.heap.size, 0, none⟩ = some (.slice none 0 0) ∧ (w.alloc (.cells #[.slice none 0 0, .slice none 0 0, .slice none 0 0, .slice none 0 0] 53)).cell? ⟨w.heap.size, 1, none⟩ = some (.slice none 0 0) ∧ (w.alloc (.cells #[.slice none 0 0, .slice none 0 0, .slice none 0 0, .slice none 0 0] 53)).cell? ⟨w.heap.size, 2, none⟩ = some (.slice none 0 0) ∧ (w.alloc (.cells #[.slice none 0 0, .slice none 0 0, .slice none 0 0, .slice none 0 0] 53)).cell? ⟨w.heap.size, 3, none⟩ = some (.slice none 0 0) := by
  have h : Bx w (w.alloc (.cells #[.slice none 0 0, .slice none 0 0, .slice none 0 0, .slice none 0 0] 53)) := ⟨(Below.refl _ _).alloc (Nat.le_refl _) _, heap_alloc_new w _⟩
  exact ⟨h.cells.1 0 (by decide), h.cells.1 1 (by decide), h.cells.1 2 (by decide), h.cells.1 3 (by decide)⟩
set_option maxRecDepth 100000 in
set_option maxHeartbeats 4000000 in
theorem Play_cfg (w : World) (nth : Int) (h : nth < 1 ∨ 16 < nth) (a : Option Addr) (n cap : Nat) (am : Option Addr) (nm cm : Nat) :
    Calls Try.prog 22 #[.int .i64 nth, .slice a n cap, .slice am nm cm] w fun e w' => e = .returned (.tuple #[nil4, .int .i64 1]) ∧ Below w.heap.size w w' := by
  have hB0 := (Below.refl w.heap.size w).alloc (Nat.le_refl _) (.cells #[.slice none 0 0, .slice none 0 0, .slice none 0 0, .slice none 0 0] 53)
  obtain ⟨e0, e1, e2, e3⟩ := nil4_cells w
  replace hB0 := Mr.hid hB0
  rcases h with h | h
  · have d1 : decide (nth < 1) = true := decide_eq_true h
    clear h
    go_enter Try.func22, Try.ntmps22
    go_wp2
    refine bodyPost_ret (v := .tuple #[nil4, .int .i64 1]) (by simp [results, Try.f22, go_sem, e0, e1, e2, e3, nil4, runV]) rfl ⟨rfl, hB0.out⟩
  · have d1 : decide (nth < 1) = false := decide_eq_false (by omega)
    have d2 : decide (16 < nth) = true := decide_eq_true h
    clear h
    go_enter Try.func22, Try.ntmps22
    go_wp2
    refine bodyPost_ret (v := .tuple #[nil4, .int .i64 1]) (by simp [results, Try.f22, go_sem, e0, e1, e2, e3, nil4, runV]) rfl ⟨rfl, hB0.out⟩
set_option maxRecDepth 100000 in
set_option maxHeartbeats 4000000 in
theorem Play_long (w : World) (nth : Int) (h1 : 1 ≤ nth) (h2 : nth ≤ 16) (a : Option Addr) (n cap : Nat) (am : Option Addr) (nm cm : Nat) (h : 8192 < n ∨ 65536 < nm) :
    Calls Try.prog 22 #[.int .i64 nth, .slice a n cap, .slice am nm cm] w fun e w' => e = .returned (.tuple #[nil4, .int .i64 3]) ∧ Below w.heap.size w w' := by
  have hB0 := (Below.refl w.heap.size w).alloc (Nat.le_refl _) (.cells #[.slice none 0 0, .slice none 0 0, .slice none 0 0, .slice none 0 0] 53)
  obtain ⟨e0, e1, e2, e3⟩ := nil4_cells w
  replace hB0 := Mr.hid hB0
  have d1 : decide (nth < 1) = false := decide_eq_false (by omega)
  have d2 : decide (16 < nth) = false := decide_eq_false (by omega)
  by_cases hn : 8192 < n
  · have d3 : decide (8192 < (n : Int)) = true := decide_eq_true (by omega)
    clear h h1 h2 hn
    go_enter Try.func22, Try.ntmps22
    go_wp2
    refine bodyPost_ret (v := .tuple #[nil4, .int .i64 3]) (by simp [results, Try.f22, go_sem, e0, e1, e2, e3, nil4, runV]) rfl ⟨rfl, hB0.out⟩
  · have d3 : decide (8192 < (n : Int)) = false := decide_eq_false (by omega)
    have d4 : decide (65536 < (nm : Int)) = true := decide_eq_true (by omega)
    clear h h1 h2 hn
    go_enter Try.func22, Try.ntmps22
    go_wp2
    refine bodyPost_ret (v := .tuple #[nil4, .int .i64 3]) (by simp [results, Try.f22, go_sem, e0, e1, e2, e3, nil4, runV]) rfl ⟨rfl, hB0.out⟩
end Go.Proofs.Ytglppcoohojmpaa.Rf
/-
  The program's Play: its refusals.
-/
namespace Go.Proofs.Ytglppcoohojmpaa.Rf
open Go.RowKit Mr Me Ma
set_option maxRecDepth 100000 in
set_option maxHeartbeats 4000000 in
theorem newM_cfg (w : World) (nth : Int) (h : nth < 1 ∨ 16 < nth) (a : Option Addr) (n cap : Nat) (v : Value) :
    Calls Try.prog 8 #[.int .i64 nth, .slice a n cap, v] w fun e w' => e = .returned (.tuple #[.pointer none, .int .i64 1]) ∧ w' = w := by
  rcases h with h | h
  · have d1 : decide (nth < 1) = true := decide_eq_true h
    clear h
    go_enter Try.func8, Try.ntmps8
    go_wp2
    go_ret2
    exact ⟨rfl, rfl⟩
  · have d1 : decide (nth < 1) = false := decide_eq_false (by omega)
    have d2 : decide (16 < nth) = true := decide_eq_true h
    clear h
    go_enter Try.func8, Try.ntmps8
    go_wp2
    go_ret2
    exact ⟨rfl, rfl⟩
set_option maxRecDepth 100000 in
set_option maxHeartbeats 4000000 in
theorem newM_long (w : World) (nth : Int) (h1 : 1 ≤ nth) (h2 : nth ≤ 16) (a : Option Addr) (n cap : Nat) (hn : 8192 < n) (v : Value) :
    Calls Try.prog 8 #[.int .i64 nth, .slice a n cap, v] w fun e w' => e = .returned (.tuple #[.pointer none, .int .i64 3]) ∧ w' = w := by
  have N := new_long a n cap w hn
  have d1 : decide (nth < 1) = false := decide_eq_false (by omega)
  have d2 : decide (16 < nth) = false := decide_eq_false (by omega)
  clear h1 h2 hn
  go_enter Try.func8, Try.ntmps8
  go_wp2_with (go_at_call 30; refine N.mono ?_; clear N; rintro e w1 ⟨rfl, hw⟩; obtain rfl := hw.symm)
  go_ret2
  exact ⟨rfl, rfl⟩
theorem bx_store {w w1 : World} (h : Bx w w1) (x0 x1 x2 x3 : Value) : ∃ W5, (((w1.setCell ⟨w.heap.size, 0, none⟩ x0).setCell ⟨w.heap.size, 1, none⟩ x1).setCell ⟨w.heap.size, 2, none⟩ x2).setCell ⟨w.heap.size, 3, none⟩ x3 = W5 ∧ Below w.heap.size w W5 ∧ W5.cell? ⟨w.heap.size, 0, none⟩ = some x0 ∧ W5.cell? ⟨w.heap.size, 1, none⟩ = some x1 ∧ W5.cell? ⟨w.heap.size, 2, none⟩ = some x2 ∧ W5.cell? ⟨w.heap.size, 3, none⟩ = some x3 := by
  obtain ⟨W5, hW5⟩ : ∃ W5, (((w1.setCell ⟨w.heap.size, 0, none⟩ x0).setCell ⟨w.heap.size, 1, none⟩ x1).setCell ⟨w.heap.size, 2, none⟩ x2).setCell ⟨w.heap.size, 3, none⟩ x3 = W5 := ⟨_, rfl⟩
  have hb5 : W5.heap[w.heap.size]? = some (.cells #[x0, x1, x2, x3] 53 (0, 0)) := by
    rw [← hW5, setBlk (setBlk (setBlk (setBlk h.2 0 _) 1 _) 2 _) 3 _]
    rfl
  have hB5 : Below w.heap.size w W5 := by
    rw [← hW5]
    exact (((h.1.setCell (p := ⟨w.heap.size, 0, none⟩) (Nat.le_refl _) _).setCell (p := ⟨w.heap.size, 1, none⟩) (Nat.le_refl _) _).setCell (p := ⟨w.heap.size, 2, none⟩) (Nat.le_refl _) _).setCell (p := ⟨w.heap.size, 3, none⟩) (Nat.le_refl _) _
  exact ⟨W5, hW5, hB5, by simp [World.cell?, hb5], by simp [World.cell?, hb5], by simp [World.cell?, hb5], by simp [World.cell?, hb5]⟩
set_option maxRecDepth 100000 in
set_option maxHeartbeats 4000000 in
theorem playM_cfg (w : World) (nth : Int) (h : nth < 1 ∨ 16 < nth) (a : Option Addr) (n cap : Nat) (am : Option Addr) (nm cm : Nat) :
    Calls Try.prog 21 #[.int .i64 nth, .slice a n cap, .slice am nm cm] w fun e w' => e = .returned (.tuple #[nil4, .int .i64 1]) ∧ Below w.heap.size w w' := by
  have hx0 : Bx w (w.alloc (.cells #[.slice none 0 0, .slice none 0 0, .slice none 0 0, .slice none 0 0] 53)) := ⟨(Below.refl _ _).alloc (Nat.le_refl _) _, heap_alloc_new w _⟩
  have O := own_any n (w.alloc (.cells #[.slice none 0 0, .slice none 0 0, .slice none 0 0, .slice none 0 0] 53))
  have N := fun (w1 : World) (v : Value) => newM_cfg w1 nth h a n cap v
  replace hx0 := Mr.hid hx0
  replace O := Mr.hid O
  replace N := Mr.hid N
  go_enter Try.func21, Try.ntmps21
  go_wp2_with (first
    | (go_at_call 10; refine O.out.mono ?_; clear O; rintro e w1 ⟨rfl, -, hB1⟩; have hx1 := hx0.out.below hB1; obtain ⟨kc, kz⟩ := hx1.cells; have kc0 := kc 0 (by decide); have kc1 := kc 1 (by decide); have kc2 := kc 2 (by decide); have kc3 := kc 3 (by decide); have BS := Mr.hid (bx_store hx1 (.slice none 0 0) (.slice none 0 0) (.slice none 0 0) (.slice none 0 0)); clear kc hB1 hx0 hx1)
    | (go_at_call 8; refine (N.out _ _).mono ?_; clear N; rintro e w2 ⟨rfl, hw⟩; obtain rfl := hw.symm))
  obtain ⟨W5, hW5, hB5, d0, d1, d2, d3⟩ := BS.out
  rw [hW5]
  refine bodyPost_ret (v := .tuple #[nil4, .int .i64 1]) (by simp [results, Try.f21, go_sem, d0, d1, d2, d3, nil4, runV]) rfl ⟨rfl, hB5⟩
set_option maxRecDepth 100000 in
set_option maxHeartbeats 4000000 in
theorem playM_words (w : World) (nth : Int) (h1 : 1 ≤ nth) (h2 : nth ≤ 16) (a : Option Addr) (n cap : Nat) (hn : 8192 < n) (am : Option Addr) (nm cm : Nat) :
    Calls Try.prog 21 #[.int .i64 nth, .slice a n cap, .slice am nm cm] w fun e w' => e = .returned (.tuple #[nil4, .int .i64 3]) ∧ Below w.heap.size w w' := by
  have hx0 : Bx w (w.alloc (.cells #[.slice none 0 0, .slice none 0 0, .slice none 0 0, .slice none 0 0] 53)) := ⟨(Below.refl _ _).alloc (Nat.le_refl _) _, heap_alloc_new w _⟩
  have O := own_any n (w.alloc (.cells #[.slice none 0 0, .slice none 0 0, .slice none 0 0, .slice none 0 0] 53))
  have N := fun (w1 : World) (v : Value) => newM_long w1 nth h1 h2 a n cap hn v
  replace hx0 := Mr.hid hx0
  replace O := Mr.hid O
  replace N := Mr.hid N
  go_enter Try.func21, Try.ntmps21
  go_wp2_with (first
    | (go_at_call 10; refine O.out.mono ?_; clear O; rintro e w1 ⟨rfl, -, hB1⟩; have hx1 := hx0.out.below hB1; obtain ⟨kc, kz⟩ := hx1.cells; have kc0 := kc 0 (by decide); have kc1 := kc 1 (by decide); have kc2 := kc 2 (by decide); have kc3 := kc 3 (by decide); have BS := Mr.hid (bx_store hx1 (.slice none 0 0) (.slice none 0 0) (.slice none 0 0) (.slice none 0 0)); clear kc hB1 hx0 hx1)
    | (go_at_call 8; refine (N.out _ _).mono ?_; clear N; rintro e w2 ⟨rfl, hw⟩; obtain rfl := hw.symm))
  obtain ⟨W5, hW5, hB5, d0, d1, d2, d3⟩ := BS.out
  rw [hW5]
  refine bodyPost_ret (v := .tuple #[nil4, .int .i64 3]) (by simp [results, Try.f21, go_sem, d0, d1, d2, d3, nil4, runV]) rfl ⟨rfl, hB5⟩
end Go.Proofs.Ytglppcoohojmpaa.Rf
/-
  The program's Play: too many moves.
-/
namespace Go.Proofs.Ytglppcoohojmpaa.Rf
open Go.RowKit Mr Me Ma
set_option maxRecDepth 100000 in
set_option maxHeartbeats 4000000 in
theorem playM_moves (w : World) (nth : Nat) (h1 : 1 ≤ nth) (h2 : nth ≤ 16) (a : Option Addr) (n cap : Nat) (ws : List Int) (hs : Src w a n cap ws) (hn : n ≤ 8192) (am : Option Addr) (nm cm : Nat) (hm : 65536 < nm) :
    Calls Try.prog 21 #[.int .i64 (nth : Int), .slice a n cap, .slice am nm cm] w fun e w' => e = .returned (.tuple #[nil4, .int .i64 3]) ∧ Below w.heap.size w w' := by
  have hwn := hs.1
  have hx0 : Bx w (w.alloc (.cells #[.slice none 0 0, .slice none 0 0, .slice none 0 0, .slice none 0 0] 53)) := ⟨(Below.refl _ _).alloc (Nat.le_refl _) _, heap_alloc_new w _⟩
  have hsz0 : (w.alloc (.cells #[.slice none 0 0, .slice none 0 0, .slice none 0 0, .slice none 0 0] 53)).heap.size = w.heap.size + 1 := by simp
  have O := own_any ws.length (w.alloc (.cells #[.slice none 0 0, .slice none 0 0, .slice none 0 0, .slice none 0 0] 53))
  rw [← hwn] at O
  have NW := fun (w1 : World) (B : Below w.heap.size w w1) {K : Nat → Prop} {km s1 a1 s2 a2 : Nat} (hK : Kt w1 K km n s1 a1 s2 a2) (hKl : ∀ k, K k → k < w1.heap.size) => newM_any w1 nth h1 h2 a n cap ws (hs.below B) hn (by rw [← hwn]; exact hK) hKl
  have d4 : decide (65536 < (nm : Int)) = true := decide_eq_true (by omega)
  replace hx0 := Mr.hid hx0
  replace O := Mr.hid O
  replace NW := Mr.hid NW
  replace hs := Mr.hid hs
  replace hwn := Mr.hid hwn
  go_enter Try.func21, Try.ntmps21
  go_wp2_with (first
    | (go_at_call 10; refine O.out.mono ?_; clear O; rintro e w1 ⟨rfl, hK, hB1⟩; have hx1 := hx0.out.below hB1; have N1 := NW.out w1 hx1.1 hK (fun k hk => hk.2); rw [hsz0] at N1; replace N1 := Mr.hid N1; replace hx1 := Mr.hid hx1; clear hB1 hx0 NW hK)
    | (go_at_call 8; refine N1.out.mono ?_; clear N1; rintro e w2 ⟨q, U, rfl, -, -, -, hB2⟩; have hx2 := hx1.out.below hB2; obtain ⟨kc, kz⟩ := hx2.cells; have kc0 := kc 0 (by decide); have kc1 := kc 1 (by decide); have kc2 := kc 2 (by decide); have kc3 := kc 3 (by decide); have BS := Mr.hid (bx_store hx2 (.slice none 0 0) (.slice none 0 0) (.slice none 0 0) (.slice none 0 0)); clear kc hB2 hx1 hx2))
  obtain ⟨W5, hW5, hB5, d0, d1, d2, d3⟩ := BS.out
  rw [hW5]
  refine bodyPost_ret (v := .tuple #[nil4, .int .i64 3]) (by simp [results, Try.f21, go_sem, d0, d1, d2, d3, nil4, runV]) rfl ⟨rfl, hB5⟩
end Go.Proofs.Ytglppcoohojmpaa.Rf
