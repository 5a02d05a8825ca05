/-
  A memory that New did not make: Back; a memory that is not there: logged.
-/
import Derived.Test.YtkfcfhgjhnmjlaaMemNilP
import Derived.BigQuiet
import Derived.Deep.RegionHeld3
namespace Go.Proofs.Ytkfcfhgjhnmjlaa.Me
open Go.RowKit Go.Shelf Mr
attribute [local go_sem] Oper.semAt_some
set_option maxRecDepth 100000 in
theorem bwd1_nil_in (l n Bs : Nat) (J : List (Nat × Acc) → World → Prop) (W : World) (bs : W.cell? ⟨Bs, 0, none⟩ = some (.slice none 0 0)) (h0 : J [] W) :
    CallsIn Fence.wide n Try.prog 26 #[.func (.yield l) #[] #[], .pointer (some ⟨Bs, 0, none⟩)] W fun e W' => (∃ v, e = .returned v) ∧ J [] W' := by
  refine callsIn_of_wp Try.func26 rfl trivial ?_ rfl
  simp only [Try.ntmps26, List.size_toArray, List.length_cons, List.length_nil, Nat.reduceAdd, Nat.reduceSub, Array.replicate_succ, Array.replicate_zero, List.push_toArray, List.append_toArray, List.nil_append, List.cons_append]
  gi_wp2
  gi_loopw [3] (fun i wr => i = .int .i64 (-1) ∧ J [] wr) (fun _ _ => 0)
  case atStart => exact ⟨rfl, h0⟩
  case round =>
    obtain ⟨rfl, hJs⟩ := hrel
    gi_wp2
    go_end0
    exact ⟨⟨_, rfl⟩, hJs⟩
theorem bwd_stops_nil (n Bs : Nat) (w : World) (bs : w.cell? ⟨Bs, 0, none⟩ = some (.slice none 0 0)) :
    SeqStopsK Fence.wide n Try.prog 26 #[.pointer (some ⟨Bs, 0, none⟩)] (fun x : Nat × Acc => #[Value.int .i64 (x.1 : Int), Acc.val x.2]) (Kl (.slice none 0 0) 0)
      (fun ys => ys = []) (fun _ => False) 0 w :=
  fun l J _ W hW _ _ _ h0 => (bwd1_nil_in l n Bs J W ((hW.cell (p := ⟨Bs, 0, none⟩) (World.block_lt_of_cell? w _ bs)).trans bs) h0).mono fun _ _ ⟨he, hj⟩ => ⟨he, .inl ⟨_, rfl, hj⟩⟩
theorem bwd_any (a : Option Addr) (n c : Nat) (w : World) :
    Calls Try.prog 20 #[.slice a n c] w fun e w' => e = .returned (.func (.func 26) #[] #[.pointer (some ⟨w.heap.size, 0, none⟩)]) ∧
      w' = w.alloc (.cells #[.slice a n c] 35) := by
  go_enter Try.func20, Try.ntmps20
  go_wp2
  go_ret
  exact ⟨rfl, rfl⟩
theorem Fr.put {a b : World} {S : Nat → Prop} (h : Fr a b S) {D : Nat} (o : Obj) (hD : a.heap.size ≤ D) : Fr a (b.putObj D o) S :=
  h.grown (grownBy_putObj' b D o) (fun k hk => by cases hk; exact .inr hD)
/-- The zero memory. -/
def Zero (W : World) (b : Nat) (mv : Int) : Prop := W.heap[b]? = some (.cells #[.slice none 0 0, .int .i64 mv, .slice none 0 0, .slice none 0 0] 56 (0, 0))
theorem Zero.mem {W : World} {b : Nat} {mv : Int} (h : Zero W b mv) : Mem W (fun k => k = b) b (.slice none 0 0) (.slice none 0 0) (.slice none 0 0) [] mv [] [] :=
  ⟨h, rfl, Has.nil _ _ _ _, Has.nil _ _ _ _, Has.nil _ _ _ _, fun _ h => by simp [Value.ownBlock] at h, by simp⟩
theorem back_out {W : World} {b : Nat} {mv : Int} (h : Zero W b mv) (c : Int) (hc : c ≠ 0) :
    Calls Try.prog 11 #[.pointer (some ⟨b, 0, none⟩), .int .i64 c] W fun e w' => e = .returned (.int .i64 21) ∧ Below W.heap.size W w' := by
  have hB : ∀ o, Below W.heap.size W (W.alloc o) := fun o => (Below.refl _ _).alloc (Nat.le_refl _) o
  have C := fun o => count_any (h.mem.below (hB o))
  by_cases h0 : c < 0
  · clear C
    go_enter Try.func11, Try.ntmps11
    go_wp2
    go_ret
    exact ⟨rfl, hB _⟩
  · have d0 : decide (c < 0) = false := by simpa using h0
    have d1 : decide (0 < c) = true := by simp; omega
    clear h0 hc
    simp only [List.length_nil] at C
    go_enter Try.func11, Try.ntmps11
    go_wp2_with (go_at_call 9; refine (C _).mono ?_; rintro e w' ⟨rfl, rfl⟩)
    go_ret
    exact ⟨rfl, hB _⟩
set_option maxRecDepth 100000 in
set_option maxHeartbeats 1000000 in
theorem back_zero {W : World} {b : Nat} {mv : Int} (h : Zero W b mv) :
    Calls Try.prog 11 #[.pointer (some ⟨b, 0, none⟩), .int .i64 0] W fun e w' => e = .returned (.int .i64 0) ∧ Zero w' b mv ∧ Fr W w' (fun k => k = b) := by
  have hB : ∀ o, Below W.heap.size W (W.alloc o) := fun o => (Below.refl _ _).alloc (Nat.le_refl _) o
  have C := fun o => callsIn_wide (n := 4) |>.2 (count_any (h.mem.below (hB o)))
  simp only [List.length_nil] at C
  have hlt := h.mem.lt
  have c2 : ∀ o, (W.alloc o).cell? ⟨b, 2, none⟩ = some (.slice none 0 0) := fun o => by rw [World.cell?_alloc_past _ _ _ hlt]; exact h.mem.c2
  have c3 : ∀ o, (W.alloc o).cell? ⟨b, 3, none⟩ = some (.slice none 0 0) := fun o => by rw [World.cell?_alloc_past _ _ _ hlt]; exact h.mem.c3
  have c22 : ∀ o p, ((W.alloc o).alloc p).cell? ⟨b, 2, none⟩ = some (.slice none 0 0) := fun o p => by rw [World.cell?_alloc_past _ _ _ (by simp; omega)]; exact c2 o
  refine (callsIn_wide (n := 5)).1 ?_
  refine callsIn_of_wp_marks Try.func11 rfl trivial ?_ rfl
  simp only [Try.ntmps11, List.size_toArray, List.length_cons, List.length_nil, Nat.reduceAdd, Nat.reduceSub, Array.replicate_succ, Array.replicate_zero, List.push_toArray, List.append_toArray, List.nil_append, List.cons_append]
  gi_wp2_with (first | (refine ⟨trivial, ?_⟩; gi_at_call 9; refine (C _).mono ?_; rintro e w' ⟨rfl, rfl⟩) | (refine ⟨trivial, ?_⟩; gi_at_call 20; refine (callsIn_wide.2 (bwd_any _ _ _ _)).mono ?_; rintro e w' ⟨rfl, rfl⟩))
  obtain ⟨W3, hW3⟩ : ∃ W3, (((W.alloc (.cells #[.pointer (some ⟨b, 0, none⟩)] 25)).alloc (.cells #[.int .i64 0] 3)).alloc (.cells #[.slice none 0 0] 35)) = W3 := ⟨_, rfl⟩
  rw [hW3]
  have b0 : Boxed W3 W.heap.size 25 (.pointer (some ⟨b, 0, none⟩)) := by rw [← hW3]; exact ((Boxed.new W 25 _).alloc _).alloc _
  have b1 : Boxed W3 (W.heap.size + 1) 3 (.int .i64 0) := by
    rw [← hW3]
    have := Boxed.new (W.alloc (.cells #[.pointer (some ⟨b, 0, none⟩)] 25)) 3 (.int .i64 0)
    rw [World.size_alloc] at this
    exact this.alloc _
  have b2 : Boxed W3 (W.heap.size + 1 + 1) 35 (.slice none 0 0) := by
    rw [← hW3]
    have := Boxed.new ((W.alloc (.cells #[.pointer (some ⟨b, 0, none⟩)] 25)).alloc (.cells #[.int .i64 0] 3)) 35 (.slice none 0 0)
    rw [World.size_alloc, World.size_alloc] at this
    exact this
  have hB3 : Below W.heap.size W W3 := by
    rw [← hW3]
    exact (((Below.refl _ W).alloc (Nat.le_refl _) _).alloc (by simp) _).alloc (by simp; omega) _
  have hs3 : W3.heap.size = W.heap.size + 1 + 1 + 1 := by rw [← hW3]; simp
  clear hW3
  refine wpIn_rangeFunc_ownH rfl (by omega) (gf := 26) (lb := #[.pointer (some ⟨W.heap.size + 1 + 1, 0, none⟩)]) rfl trivial (enters_of Try.func26 (by kernel_rfl) rfl)
    (bwd_stops_nil 4 _ W3 b2.cell) Kl.trans (Kl.put (fun g hg => by simp [Value.ownBlock] at hg)) (Below.refl _ _) (fun _ => rfl)
    (fun (_ : List (Nat × Acc)) W' => (Boxed W' W.heap.size 25 (.pointer (some ⟨b, 0, none⟩)) ∧ Boxed W' (W.heap.size + 1) 3 (.int .i64 0)) ∧ Below W.heap.size W W')
    (fun _ _ _ => False)
    (OwnFrom.and (Own.from (by
      rintro s X Y row ⟨h1, h2⟩ hg hr
      exact ⟨boxed_own (β := Unit) _ _ (fun _ => _) () X Y row h1 hg hr, boxed_own (β := Unit) _ _ (fun _ => _) () X Y row h2 hg hr⟩) _) (ownFrom_below (Nat.le_refl _) (by omega)))
    (fun c => by rintro s X Y row hs _ _; exact hs)
    ⟨⟨b0, b1⟩, hB3⟩ (fun _ _ _ => True) (fun _ _ => by rintro _ _ _ _ _ _ _; trivial)
    ?assign ?body ?done ?stop
  case assign =>
    rintro l pre x Wb K ⟨⟨h1, h2⟩, hBW⟩ hK
    have hsz := hBW.size
    obtain ⟨x1, x2⟩ := x
    simp only [Acc.val]
    gi_wp2
    exact hK _ _ ((KeepsOthers.alloc _ _).from _) (fun g hg => by simp [Value.ownBlock] at hg) ⟨⟨h1.alloc _, h2.alloc _⟩, hBW.alloc hsz _⟩ trivial
  case body =>
    rintro l pre x a' Wb hl ⟨r, hr⟩ hI _ hlen
    omega
  case done =>
    rintro D ys Wd hD rfl ⟨⟨h1, h2⟩, hBW⟩ hK
    have z : Zero Wd b mv := (hBW.block b hlt).trans h
    have k1 := h1.cell
    have k2 := h2.cell
    have z2 := z.mem.c2
    have z3 := z.mem.c3
    have f2 := z.mem.fz 2
    have f3 := z.mem.fz 3
    have ne1 : W.heap.size ≠ b := by omega
    have ne2 : W.heap.size + 1 ≠ b := by omega
    have ne1' : b ≠ W.heap.size := by omega
    have ne2' : b ≠ W.heap.size + 1 := by omega
    clear c2 c3 c22 C
    gi_wp2
    gi_region
    gi_wp2
    have zs : Zero (Wd.setCell ⟨b, 2, none⟩ (.slice none 0 0)).drew b mv := by
      show (Wd.setCell ⟨b, 2, none⟩ (.slice none 0 0)).heap[b]? = _
      rw [setBlk z]; rfl
    have h1' : Boxed (Wd.setCell ⟨b, 2, none⟩ (.slice none 0 0)).drew W.heap.size 25 (.pointer (some ⟨b, 0, none⟩)) := (Below.heap_setCell Wd ⟨b, 2, none⟩ _ _ ne1).trans h1
    have h2' : Boxed (Wd.setCell ⟨b, 2, none⟩ (.slice none 0 0)).drew (W.heap.size + 1) 3 (.int .i64 0) := (Below.heap_setCell Wd ⟨b, 2, none⟩ _ _ ne2).trans h2
    have hK' : (Wd.setCell ⟨b, 2, none⟩ (.slice none 0 0)).drew.heap[D]? = some (.deferred (some [])) := (Below.heap_setCell Wd ⟨b, 2, none⟩ _ D (fun e => by have e' : D = b := e; omega)).trans hK
    have hF : Fr W (Wd.setCell ⟨b, 2, none⟩ (.slice none 0 0)).drew (fun k => k = b) := (Fr.setCell (S := fun k => k = b) (Fr.of_below hBW) ⟨b, 2, none⟩ _ (.inl rfl)).drew
    clear hK z2 z3 f2 f3 k1 k2 h1 h2 hBW z
    generalize (Wd.setCell ⟨b, 2, none⟩ (.slice none 0 0)).drew = W6 at *
    have k1 := h1'.cell
    have k2 := h2'.cell
    have z3 := zs.mem.c3
    have f3 := zs.mem.fz 3
    have z3s : (W6.setCell ⟨b, 3, none⟩ (.slice none 0 0)).cell? ⟨b, 3, none⟩ = some (.slice none 0 0) := World.cell?_setCell_same _ _ _ z3
    refine wpIn_wide.2 ?_
    go_region_held3 (fun w' => w'.cell? ⟨W.heap.size, 0, none⟩ = some (.pointer (some ⟨b, 0, none⟩)) ∧ w'.cell? ⟨W.heap.size + 1, 0, none⟩ = some (.int .i64 0) ∧ w'.cell? ⟨b, 3, none⟩ = some (.slice none 0 0) ∧ w'.frozen? ⟨b, 3, none⟩ = false) (go_keep) (fail)
    gi_wp2
    have hK6 : (W6.setCell ⟨b, 3, none⟩ (.slice none 0 0)).drew.heap[D]? = some (.deferred (some [])) := (Below.heap_setCell W6 ⟨b, 3, none⟩ _ D (fun e => by have e' : D = b := e; omega)).trans hK'
    refine ⟨by simp, .inl ⟨_, _, rfl, run_takeDeferred (w := (W6.setCell ⟨b, 3, none⟩ (.slice none 0 0)).drew) hK6, ?_⟩⟩
    refine ⟨.int .i64 0, by simp [results, Try.f11, go_sem], rfl, ?_, ?_⟩
    · show ((W6.setCell ⟨b, 3, none⟩ (.slice none 0 0)).drew.putObj D _).heap[b]? = _
      rw [World.putObj_heap_other (by omega)]
      show (W6.setCell ⟨b, 3, none⟩ (.slice none 0 0)).heap[b]? = _
      rw [setBlk zs]; rfl
    · exact Fr.put (Fr.drew (Fr.setCell (S := fun k => k = b) hF ⟨b, 3, none⟩ _ (.inl rfl))) _ (by omega)
  case stop =>
    rintro D c pre Wd hD _ hf _
    exact hf.elim

set_option maxRecDepth 100000 in
set_option maxHeartbeats 1000000 in
theorem logged_nil (W : World) (fr most : Int) :
    Calls Try.prog 8 #[.pointer none, .int .i64 fr, .int .i64 most] W fun e w' => e = .returned (.tuple #[.slice none 0 0, .slice none 0 0, .bool true]) ∧ Below W.heap.size W w' := by
  have enf := run_eql_func_nil
  refine (callsIn_wide (n := 5)).1 ?_
  refine callsIn_of_wp_marks Try.func8 rfl trivial ?_ rfl
  simp only [Try.ntmps8, List.size_toArray, List.length_cons, List.length_nil, Nat.reduceAdd, Nat.reduceSub, Array.replicate_succ, Array.replicate_zero, List.push_toArray, List.append_toArray, List.nil_append, List.cons_append]
  gi_wp2_with (refine ⟨trivial, ?_⟩; gi_at_call 6; refine (callsIn_wide.2 (log_any _ _ _)).mono ?_; rintro e w' ⟨rfl, rfl⟩)
  obtain ⟨W5, hW5⟩ : ∃ W5, (((((W.alloc (.cells #[.int .i64 most] 3)).alloc (.cells #[.pointer none] 25)).alloc (.cells #[.int .i64 fr] 3)).alloc (.cells #[.slice none 0 0] 34)).alloc (.cells #[.slice none 0 0] 35)) = W5 := ⟨_, rfl⟩
  rw [hW5]
  have b1 : Boxed W5 (W.heap.size + 1) 25 (.pointer none) := by
    rw [← hW5]
    have := Boxed.new (W.alloc (.cells #[.int .i64 most] 3)) 25 (.pointer none)
    rw [World.size_alloc] at this
    exact ((this.alloc _).alloc _).alloc _
  have b3 : Boxed W5 (W.heap.size + 1 + 1 + 1) 34 (.slice none 0 0) := by
    rw [← hW5]
    have := Boxed.new (((W.alloc (.cells #[.int .i64 most] 3)).alloc (.cells #[.pointer none] 25)).alloc (.cells #[.int .i64 fr] 3)) 34 (.slice none 0 0)
    rw [World.size_alloc, World.size_alloc, World.size_alloc] at this
    exact this.alloc _
  have b4 : Boxed W5 (W.heap.size + 1 + 1 + 1 + 1) 35 (.slice none 0 0) := by
    rw [← hW5]
    have := Boxed.new ((((W.alloc (.cells #[.int .i64 most] 3)).alloc (.cells #[.pointer none] 25)).alloc (.cells #[.int .i64 fr] 3)).alloc (.cells #[.slice none 0 0] 34)) 35 (.slice none 0 0)
    rw [World.size_alloc, World.size_alloc, World.size_alloc, World.size_alloc] at this
    exact this
  have hB5 : Below W.heap.size W W5 := by
    rw [← hW5]
    exact (((((Below.refl _ W).alloc (Nat.le_refl _) _).alloc (by simp) _).alloc (by simp; omega) _).alloc (by simp; omega) _).alloc (by simp; omega) _
  have hs5 : W5.heap.size = W.heap.size + 1 + 1 + 1 + 1 + 1 := by rw [← hW5]; simp
  clear hW5
  refine wpIn_rangeFunc_ownH rfl (by omega) (gf := 18) (lb := #[.pointer (some ⟨W.heap.size + 1, 0, none⟩), .pointer (some ⟨W.heap.size + 1 + 1, 0, none⟩)]) rfl trivial (enters_of Try.func18 (by kernel_rfl) rfl)
    (log_stops_nil 4 _ _ W5 b1.cell) Kl.trans (Kl.put (fun g hg => by simp [Value.ownBlock] at hg)) (Below.refl _ _) (fun _ => rfl)
    (fun (_ : List (Nat × Acc)) W' => (Boxed W' (W.heap.size + 1 + 1 + 1) 34 (.slice none 0 0) ∧ Boxed W' (W.heap.size + 1 + 1 + 1 + 1) 35 (.slice none 0 0)) ∧ Below W.heap.size W W')
    (fun _ _ _ => False)
    (OwnFrom.and (Own.from (by
      rintro s X Y row ⟨h1, h2⟩ hg hr
      exact ⟨boxed_own (β := Unit) _ _ (fun _ => _) () X Y row h1 hg hr, boxed_own (β := Unit) _ _ (fun _ => _) () X Y row h2 hg hr⟩) _) (ownFrom_below (Nat.le_refl _) (by omega)))
    (fun c => by rintro s X Y row hs _ _; exact hs)
    ⟨⟨b3, b4⟩, hB5⟩ (fun _ _ _ => True) (fun _ _ => by rintro _ _ _ _ _ _ _; trivial)
    ?assign ?body ?done ?stop
  case assign =>
    rintro l pre x Wb K ⟨⟨h1, h2⟩, hBW⟩ hK
    have hsz := hBW.size
    obtain ⟨x1, x2⟩ := x
    simp only [Acc.val]
    gi_wp2
    exact hK _ _ ((KeepsOthers.alloc _ _).from _) (fun g hg => by simp [Value.ownBlock] at hg) ⟨⟨h1.alloc _, h2.alloc _⟩, hBW.alloc hsz _⟩ trivial
  case body =>
    rintro l pre x a' Wb hl ⟨r, hr⟩ hI _ hlen
    omega
  case done =>
    rintro D ys Wd hD rfl ⟨⟨h1, h2⟩, hBW⟩ hK
    have k1 := h1.cell
    have k2 := h2.cell
    gi_wp2
    gi_region
    all_goals gi_wp2
    all_goals (refine ⟨by simp, .inl ⟨_, _, rfl, run_takeDeferred (w := Wd.drew) hK, ?_⟩⟩)
    all_goals (exact ⟨.tuple #[.slice none 0 0, .slice none 0 0, .bool true], by simp [results, Try.f8, go_sem], rfl, hBW.trans ((Below.drew (Below.refl _ Wd)).trans (belowK_b (w := W) (Nat.le_refl _) Wd.drew D _ _ (by omega) hK rfl rfl))⟩)
  case stop =>
    rintro D c pre Wd hD _ hf _
    exact hf.elim
end Go.Proofs.Ytkfcfhgjhnmjlaa.Me
