import Derived.Test.YtglppcoohojmpaaJ14
import Derived.Laws.ResultCell
/-
  Play by its contract: a script that may be.
-/
namespace Go.Proofs.Ytglppcoohojmpaa.Ma
open Go.RowKit Go.Shelf Mr Me
/-- A move. -/
structure Mv where
  th : Int
  op : Int
  arg : Int
  data : Int
def noMv : Mv := ⟨0, 0, 0, 0⟩
/-- The slice value .slice a n cap reads as the moves ms. -/
def MvAt (W : World) (a : Option Addr) (n : Nat) (ms : List Mv) : Prop :=
  n = ms.length ∧ (ms = [] ∨ ∃ b off, a = some ⟨b, off, none⟩ ∧ b < W.heap.size ∧ ∀ j, j < ms.length →
    W.cell? ⟨b, off + j * 4, none⟩ = some (.int .i64 (ms[j]?.getD noMv).th) ∧ W.cell? ⟨b, off + j * 4 + 1, none⟩ = some (.int .i64 (ms[j]?.getD noMv).op) ∧ W.cell? ⟨b, off + j * 4 + 2, none⟩ = some (.int .i64 (ms[j]?.getD noMv).arg) ∧ W.cell? ⟨b, off + j * 4 + 3, none⟩ = some (.int .i64 (ms[j]?.getD noMv).data))
theorem MvAt.below {W W' : World} {a : Option Addr} {n : Nat} {ms : List Mv} (h : MvAt W a n ms) (hB : Below W.heap.size W W') : MvAt W' a n ms := by
  refine ⟨h.1, ?_⟩
  rcases h.2 with h | ⟨b, off, rfl, hb, hc⟩
  · exact .inl h
  · refine .inr ⟨b, off, rfl, Nat.lt_of_lt_of_le hb hB.size, fun j hj => ?_⟩
    obtain ⟨c0, c1, c2, c3⟩ := hc j hj
    exact ⟨(hB.cell (p := ⟨b, _, none⟩) hb).trans c0, (hB.cell (p := ⟨b, _, none⟩) hb).trans c1, (hB.cell (p := ⟨b, _, none⟩) hb).trans c2, (hB.cell (p := ⟨b, _, none⟩) hb).trans c3⟩
def Pm.play (P : Pm) (ms : List Mv) : Pm := ms.foldl (fun P m => (P.move m.th m.op m.arg m.data).1) P
theorem play_snoc (P : Pm) (ms : List Mv) (i : Nat) (hi : i < ms.length) : P.play (ms.take (i + 1)) = ((P.play (ms.take i)).move (ms[i]?.getD noMv).th (ms[i]?.getD noMv).op (ms[i]?.getD noMv).arg (ms[i]?.getD noMv).data).1 := by
  unfold Pm.play
  rw [List.take_add_one, List.foldl_append]
  simp [hi]
theorem R.below {W w : World} {U K : Nat → Prop} {q : Ph} {km s1 a1 s2 a2 : Nat} {P : Pm} (h : R W U K q km s1 a1 s2 a2 P) (hB : Below W.heap.size W w) : R w U K q km s1 a1 s2 a2 P := by
  obtain ⟨S, vl, va, vc, mv, ah, bt, hM, hinj, hah, hK, hKU, hwf, hvk⟩ := h
  exact ⟨S, vl, va, vc, mv, ah, bt, hM.below hB, hinj, hah, hK.kept (fun k hk => hB.block k (hKU k hk).2), fun k hk => ⟨(hKU k hk).1, Nat.lt_of_lt_of_le (hKU k hk).2 hB.size⟩, hwf, hvk⟩
set_option maxRecDepth 100000 in
set_option maxHeartbeats 2000000 in
theorem play_ok (w : World) (nth : Nat) (h1 : 1 ≤ nth) (h2 : nth ≤ 16) (a : Option Addr) (n cap : Nat) (ws : List Int) (hs : Src w a n cap ws) (hn : n ≤ 8192) (am : Option Addr) (nm cm : Nat) (ms : List Mv) (hm : MvAt w am nm ms) (hnm : nm ≤ 65536) :
    Calls Try.prog 21 #[.int .i64 (nth : Int), .slice a n cap, .slice am nm cm] w fun e w' => ∃ v1 v2 v4, e = .returned (.tuple #[runV v1 v2 (.slice none 0 0) v4, .int .i64 0]) ∧ Has w' (fun k => w.heap.size ≤ k) 78 9 v1 ((Pm.new nth ws).play ms).cls.length (clc ((Pm.new nth ws).play ms).cls) ∧ Has w' (fun k => w.heap.size ≤ k) 128 7 v2 ((Pm.new nth ws).play ms).lg.length (lgc ((Pm.new nth ws).play ms).lg) ∧ Has w' (fun k => w.heap.size ≤ k) 59 1 v4 ((Pm.new nth ws).play ms).ws.length (wrd ((Pm.new nth ws).play ms).ws) ∧ Below w.heap.size w w' := by
  have hwn := hs.1
  have O := fun o => own_any ws.length (w.alloc o)
  rw [← hwn] at O
  have NW := fun (w1 : World) (B : Below w.heap.size w w1) {K : Nat → Prop} {km s1 a1 s2 a2 : Nat} (hK : Kt w1 K km ws.length s1 a1 s2 a2) (hKl : ∀ k, K k → k < w1.heap.size) => newM_any w1 nth h1 h2 a n cap ws (hs.below B) hn hK hKl
  have hB0 := (Below.refl w.heap.size w).alloc (Nat.le_refl _) (.cells #[.slice none 0 0, .slice none 0 0, .slice none 0 0, .slice none 0 0] 53)
  have hbx0 : (w.alloc (.cells #[.slice none 0 0, .slice none 0 0, .slice none 0 0, .slice none 0 0] 53)).heap[w.heap.size]? = some (.cells #[.slice none 0 0, .slice none 0 0, .slice none 0 0, .slice none 0 0] 53 (0, 0)) := heap_alloc_new w _
  have hsz0 : (w.alloc (.cells #[.slice none 0 0, .slice none 0 0, .slice none 0 0, .slice none 0 0] 53)).heap.size = w.heap.size + 1 := by simp
  have d3 : decide (65536 < (nm : Int)) = false := by simp; omega
  obtain ⟨hnml, _⟩ := id hm
  subst hnml
  replace hwn := Mr.hid hwn
  replace hs := Mr.hid hs
  go_enter Try.func21, Try.ntmps21
  go_wp2_with (first | (go_at_call 10; refine (O _).mono ?_; clear O; rintro e w1 ⟨rfl, hK, hB1⟩; have hK' : Kt w1 _ _ ws.length _ _ _ _ := (by rw [← hwn.out]; exact hK); clear hK; have Bw1 : Below w.heap.size w w1 := hB0.trans (hB1.mono (by rw [hsz0]; omega)); have NW1 := NW w1 Bw1 hK' (fun k hk => hk.2); clear NW hK'; have hx1 : Bx w w1 := ⟨Bw1, (hB1.block _ (by rw [hsz0]; omega)).trans hbx0⟩; have z1 := hB1.size; rw [hsz0] at z1 NW1; replace hx1 := Mr.hid hx1; replace Bw1 := Mr.hid Bw1; clear hB1) | (go_at_call 8; refine NW1.mono ?_; clear NW1; rintro e w2 ⟨q, U, rfl, hR, hvs, hUl, hB2⟩; have hx2 : Bx w w2 := hx1.out.below hB2; replace hR := Mr.hid hR; replace hB2 := Mr.hid hB2; replace hUl := Mr.hid hUl; replace hx2 := Mr.hid hx2; clear hx1))
  go_loopg [31] ms.length (fun k s wr => ∃ (i : Nat) (U' : Nat → Prop), s = .int .i64 (i : Int) ∧ i + k = ms.length ∧ R wr U' (fun k => w.heap.size + 1 ≤ k ∧ k < w1.heap.size) q (w.heap.size + 1) (w.heap.size + 1 + 1) (w.heap.size + 1 + 1 + 1) (w.heap.size + 1 + 1 + 1 + 1) (w.heap.size + 1 + 1 + 1 + 1 + 1) ((Pm.new nth ws).play (ms.take i)) ∧ (∀ k, U' k → w1.heap.size ≤ k) ∧ Bx w wr ∧ w1.heap.size ≤ wr.heap.size)
  case atStart => exact ⟨0, U, rfl, by omega, hR.out, hUl.out, hx2.out, hB2.out.size⟩
  case round =>
    obtain ⟨i, U', rfl, hi, hRi, hUi, hxi, hw1r⟩ := hrel
    replace hw1r := Mr.hid hw1r
    by_cases hlt : i < ms.length
    · rcases hm.2 with h0 | ⟨bo, oo, rfl, hbo, hc⟩
      · rw [h0] at hlt; simp at hlt
      obtain ⟨c0, c1, c2, c3⟩ := hc i hlt
      have hcW := fun (j : Nat) (u : Value) (hu : w.cell? ⟨bo, j, none⟩ = some u) => (hxi.1.cell (p := ⟨bo, j, none⟩) hbo).trans hu
      have g0 := hcW _ _ c0
      have g1 := hcW _ _ c1
      have g2 := hcW _ _ c2
      have g3 := hcW _ _ c3
      have hsn := Mr.hid (play_snoc (Pm.new nth ws) ms i hlt)
      have hsz := hxi.1.size
      have MV := fun (o : Obj) => move_own (hRi.below ((Below.refl wr.heap.size wr).alloc (Nat.le_refl _) o)) (ms[i]?.getD noMv).th (ms[i]?.getD noMv).op (ms[i]?.getD noMv).arg (ms[i]?.getD noMv).data
      have fin := fun (o : Obj) (w3 : World) (hO : Out (wr.alloc o) U' (fun k => w.heap.size + 1 ≤ k ∧ k < w1.heap.size) q (w.heap.size + 1) (w.heap.size + 1 + 1) (w.heap.size + 1 + 1 + 1) (w.heap.size + 1 + 1 + 1 + 1) (w.heap.size + 1 + 1 + 1 + 1 + 1) (((Pm.new nth ws).play (ms.take i)).move (ms[i]?.getD noMv).th (ms[i]?.getD noMv).op (ms[i]?.getD noMv).arg (ms[i]?.getD noMv).data).1 w3) => (show ∃ U'' : Nat → Prop, R w3 U'' (fun k => w.heap.size + 1 ≤ k ∧ k < w1.heap.size) q (w.heap.size + 1) (w.heap.size + 1 + 1) (w.heap.size + 1 + 1 + 1) (w.heap.size + 1 + 1 + 1 + 1) (w.heap.size + 1 + 1 + 1 + 1 + 1) ((Pm.new nth ws).play (ms.take (i + 1))) ∧ (∀ k, U'' k → w1.heap.size ≤ k) ∧ Bx w w3 ∧ w1.heap.size ≤ w3.heap.size from by
        obtain ⟨U'', hR', hsub, hup, hf⟩ := hO
        have hBa := (Below.refl wr.heap.size wr).alloc (Nat.le_refl _) o
        have hxa := hxi.below hBa
        have hw1 : w1.heap.size ≤ wr.heap.size := hw1r.out
        refine ⟨U'', by rw [hsn.out]; exact hR', fun k hk => ?_, ⟨hxa.1.trans (hf.below (fun k hk => by have := hUi k hk; omega) (by simp; omega)), (hf.block _ (by simp; omega) (fun e => by have := hUi _ e; omega)).trans hxa.2⟩, by have := hf.size; simp at this; omega⟩
        rcases hup k hk with h | h
        · exact hUi k h
        · simp at h; omega)
      generalize ((Pm.new nth ws).play (ms.take i)).move (ms[i]?.getD noMv).th (ms[i]?.getD noMv).op (ms[i]?.getD noMv).arg (ms[i]?.getD noMv).data = PM at *
      generalize ms[i]?.getD noMv = m0 at *
      replace hRi := Mr.hid hRi
      replace hUi := Mr.hid hUi
      replace hxi := Mr.hid hxi
      clear hc hcW c0 c1 c2 c3 hm hR hUl hx2
      go_wp2_with (go_at_call 14; refine (MV _).mono ?_; clear MV; rintro e w3 ⟨rfl, hO⟩; obtain ⟨U'', r1, r2, r3, r4⟩ := fin _ w3 hO; clear fin hO)
      go_roundg (gk - 1)
      case measure => omega
      case rel => exact ⟨i + 1, U'', by simp, by omega, r1, r2, r3, r4⟩
    · obtain rfl : i = ms.length := by omega
      rw [List.take_length] at hRi
      have RN := runM_any hRi hvs
      have hsz := hxi.1.size
      have hbl : w.heap.size < wr.heap.size := (Array.getElem?_eq_some_iff.1 hxi.2).1
      have fin : ∀ (w6 : World) (hB : Below wr.heap.size wr w6), Bx w w6 := fun w6 hB => hxi.below hB
      replace hRi := Mr.hid hRi
      replace hxi := Mr.hid hxi
      clear hm hR hUl hx2
      go_wp2_with (go_at_call 17; refine RN.mono ?_; clear RN; rintro e w6 ⟨v1, v2, v4, rfl, hv1, hv2, hv4, hB6⟩; have hx6 := fin w6 hB6; clear fin; obtain ⟨kc, kz⟩ := hx6.cells; have kc0 := kc 0 (by decide); have kc1 := kc 1 (by decide); have kc2 := kc 2 (by decide); have kc3 := kc 3 (by decide); clear kc; obtain ⟨p1, q1, rfl, _⟩ := hv1.form; obtain ⟨p2, q2, rfl, _⟩ := hv2.form; obtain ⟨p4, q4, rfl, _⟩ := hv4.form; replace hx6 := Mr.hid hx6; unfold runV)
      generalize hn1 : ((Pm.new nth ws).play ms).cls.length = n1 at *
      generalize hn2 : ((Pm.new nth ws).play ms).lg.length = n2 at *
      generalize hn4 : ((Pm.new nth ws).play ms).ws.length = n4 at *
      obtain ⟨W5, hW5⟩ : ∃ W5, (((w6.setCell ⟨w.heap.size, 0, none⟩ (.slice p1 n1 q1)).setCell ⟨w.heap.size, 1, none⟩ (.slice p2 n2 q2)).setCell ⟨w.heap.size, 2, none⟩ (.slice none 0 0)).setCell ⟨w.heap.size, 3, none⟩ (.slice p4 n4 q4) = W5 := ⟨_, rfl⟩
      have hb5 : W5.heap[w.heap.size]? = some (.cells #[.slice p1 n1 q1, .slice p2 n2 q2, .slice none 0 0, .slice p4 n4 q4] 53 (0, 0)) := by
        rw [← hW5, setBlk (setBlk (setBlk (setBlk hx6.out.2 0 _) 1 _) 2 _) 3 _]
        rfl
      have ho5 : ∀ k, k ≠ w.heap.size → W5.heap[k]? = w6.heap[k]? := fun k hk => by
        rw [← hW5, Below.heap_setCell _ _ _ k hk, Below.heap_setCell _ _ _ k hk, Below.heap_setCell _ _ _ k hk, Below.heap_setCell _ _ _ k hk]
      have hB5 : Below w.heap.size w W5 := by
        rw [← hW5]
        exact (((hx6.out.1.setCell (p := ⟨w.heap.size, 0, none⟩) (Nat.le_refl _) _).setCell (p := ⟨w.heap.size, 1, none⟩) (Nat.le_refl _) _).setCell (p := ⟨w.heap.size, 2, none⟩) (Nat.le_refl _) _).setCell (p := ⟨w.heap.size, 3, none⟩) (Nat.le_refl _) _
      have keep : ∀ {e size m : Nat} {v : Value} {xs : List Value}, Has w6 (fun k => wr.heap.size ≤ k) e size v m xs → Has W5 (fun k => w.heap.size ≤ k) e size v m xs := fun {e size m v xs} hh =>
        hh.kept (fun k hk => ho5 k (fun e' => by have := (hh.lt k hk).1; omega)) (fun k hk => by have := (hh.lt k hk).1; omega)
      have d0 : W5.cell? ⟨w.heap.size, 0, none⟩ = some (.slice p1 n1 q1) := by simp [World.cell?, hb5]
      have d1 : W5.cell? ⟨w.heap.size, 1, none⟩ = some (.slice p2 n2 q2) := by simp [World.cell?, hb5]
      have d2 : W5.cell? ⟨w.heap.size, 2, none⟩ = some (.slice none 0 0) := by simp [World.cell?, hb5]
      have d3' : W5.cell? ⟨w.heap.size, 3, none⟩ = some (.slice p4 n4 q4) := by simp [World.cell?, hb5]
      rw [hW5]
      refine bodyPost_ret (v := .tuple #[runV (.slice p1 n1 q1) (.slice p2 n2 q2) (.slice none 0 0) (.slice p4 n4 q4), .int .i64 0]) (by simp [results, Try.f21, go_sem, d0, d1, d2, d3', runV]) rfl ?_
      exact ⟨_, _, _, rfl, keep hv1, keep hv2, keep hv4, hB5⟩
end Go.Proofs.Ytglppcoohojmpaa.Ma
/-
  awake of reclaimlaw03: the chapter's first example.
-/
namespace Go.Proofs.Ytglppcoohojmpaa.Ma
open Go.RowKit Go.Shelf Mr Me
def awm : List Mv := [⟨0, 2, 0, 0⟩, ⟨1, 2, 0, 0⟩, ⟨0, 0, 0, 0⟩, ⟨1, 0, 0, 0⟩, ⟨0, 0, 0, 0⟩, ⟨1, 0, 0, 0⟩, ⟨1, 0, 0, 0⟩, ⟨1, 0, 0, 0⟩]
theorem aw_cls : ((Pm.new 2 [5, 0]).play awm).cls = [⟨0, 2, 0, 0, 0, 4, 4, 2, 5⟩, ⟨1, 2, 0, 0, 1, 7, 7, 2, 6⟩] := by kernel_rfl
theorem aw_lg : ((Pm.new 2 [5, 0]).play awm).lg.length = 6 := by kernel_rfl
theorem aw_ws : ((Pm.new 2 [5, 0]).play awm).ws = [7, 0] := by kernel_rfl
theorem two_srcM (w : World) (x y : Int) : Src (w.alloc (.cells #[.int .u64 x, .int .u64 y] 59)) (some ⟨w.heap.size, 0, none⟩) 2 2 [x, y] := by
  refine ⟨rfl, .inr ⟨_, rfl, fun j u hu => ?_⟩⟩
  exact newsAt w _ #[.int .u64 x, .int .u64 y] 59 _ rfl rfl j u (by simpa [wrd] using hu)
def awo : Obj := .cells #[.int .i64 0, .int .i64 2, .int .i64 0, .int .i64 0, .int .i64 1, .int .i64 2, .int .i64 0, .int .i64 0, .int .i64 0, .int .i64 0, .int .i64 0, .int .i64 0, .int .i64 1, .int .i64 0, .int .i64 0, .int .i64 0, .int .i64 0, .int .i64 0, .int .i64 0, .int .i64 0, .int .i64 1, .int .i64 0, .int .i64 0, .int .i64 0, .int .i64 1, .int .i64 0, .int .i64 0, .int .i64 0, .int .i64 1, .int .i64 0, .int .i64 0, .int .i64 0] 46
theorem aw_at (w : World) : MvAt (w.alloc awo) (some ⟨w.heap.size, 0, none⟩) 8 awm := by
  refine ⟨rfl, .inr ⟨_, 0, rfl, by simp, fun j hj => ?_⟩⟩
  have hb : (w.alloc awo).heap[w.heap.size]? = some awo := heap_alloc_new w _
  generalize w.alloc awo = W at *
  have hj' : j = 0 ∨ j = 1 ∨ j = 2 ∨ j = 3 ∨ j = 4 ∨ j = 5 ∨ j = 6 ∨ j = 7 := by simp [awm] at hj; omega
  rcases hj' with rfl | rfl | rfl | rfl | rfl | rfl | rfl | rfl <;> simp [World.cell?, hb, awo, awm]
/-- The example, played. -/
theorem aw_play (w : World) : Calls Try.prog 21 #[.int .i64 2, .slice (some ⟨w.heap.size + 1, 0, none⟩) 2 2, .slice (some ⟨w.heap.size, 0, none⟩) 8 8] ((w.alloc awo).alloc (.cells #[.int .u64 5, .int .u64 0] 59)) fun e w' => ∃ g1 c1 g2 c2 g4 c4, e = .returned (.tuple #[.agg #[.slice (some ⟨g1, 0, none⟩) 2 c1, .slice (some ⟨g2, 0, none⟩) 6 c2, .slice none 0 0, .slice (some ⟨g4, 0, none⟩) 2 c4], .int .i64 0]) ∧ g1 < w'.heap.size ∧ g4 < w'.heap.size ∧ w'.cell? ⟨g4, 0, none⟩ = some (.int .u64 7) ∧ (w'.cell? ⟨g1, 9, none⟩ = some (.int .i64 1) ∧ w'.cell? ⟨g1, 10, none⟩ = some (.int .i64 2) ∧ w'.cell? ⟨g1, 11, none⟩ = some (.int .i64 0) ∧ w'.cell? ⟨g1, 12, none⟩ = some (.int .i64 0) ∧ w'.cell? ⟨g1, 13, none⟩ = some (.int .i64 1) ∧ w'.cell? ⟨g1, 14, none⟩ = some (.int .i64 7) ∧ w'.cell? ⟨g1, 15, none⟩ = some (.int .i64 7) ∧ w'.cell? ⟨g1, 16, none⟩ = some (.int .i64 2) ∧ w'.cell? ⟨g1, 17, none⟩ = some (.int .i64 6)) ∧ Below w.heap.size w w' := by
  have h1 := two_srcM (w.alloc awo) 5 0
  have h2 := (aw_at w).below ((Below.refl (w.alloc awo).heap.size (w.alloc awo)).alloc (Nat.le_refl _) (.cells #[.int .u64 5, .int .u64 0] 59))
  rw [show (w.alloc awo).heap.size = w.heap.size + 1 from by simp] at h1
  refine (play_ok _ 2 (by decide) (by decide) _ _ _ _ h1 (by decide) _ _ 8 _ h2 (by decide)).mono ?_
  rintro e w' ⟨v1, v2, v4, rfl, hv1, hv2, hv4, hB⟩
  rw [aw_cls] at hv1
  rw [aw_lg] at hv2
  rw [aw_ws] at hv4
  obtain ⟨g1, c1, rfl, _, l1, _⟩ := hv1.there (by decide)
  obtain ⟨g2, c2, rfl, _, l2, _⟩ := hv2.there (by decide)
  obtain ⟨g4, c4, rfl, _, l4, _⟩ := hv4.there (by decide)
  have k1 := hv1.cells (g := g1) rfl
  have k4 := hv4.cells (g := g4) rfl
  refine ⟨g1, c1, g2, c2, g4, c4, rfl, l1, l4, k4 0 _ rfl, ⟨k1 9 _ rfl, k1 10 _ rfl, k1 11 _ rfl, k1 12 _ rfl, k1 13 _ rfl, k1 14 _ rfl, k1 15 _ rfl, k1 16 _ rfl, k1 17 _ rfl⟩, ?_⟩
  simp only [World.size_alloc] at hB
  exact (((Below.refl w.heap.size w).alloc (Nat.le_refl _) _).alloc (by simp) _).trans (hB.mono (by omega))
set_option maxRecDepth 100000 in
set_option maxHeartbeats 1000000 in
theorem awake_any (w : World) : Calls Try.prog 11 #[] w fun e w' => e = .returned (.bool true) ∧ Below w.heap.size w w' := by
  have P := aw_play w
  unfold awo at P
  go_enter Try.func11, Try.ntmps11
  go_wp2_with (go_at_call 21; refine P.mono ?_; clear P; rintro e w1 ⟨g1, c1, g2, c2, g4, c4, rfl, l1, l4, k, ⟨k0, k1, k2, k3, k4, k5, k6, k7, k8⟩, hB⟩)
  go_ret
  exact ⟨rfl, hB.alloc hB.size _⟩
end Go.Proofs.Ytglppcoohojmpaa.Ma
