/-
  Back by its contract: to where the log stands (made by genbacknone.py).
-/
import Derived.Test.YtilbkminekojcaaMemBackAny
namespace Go.Proofs.Ytilbkminekojcaa.Me
open Go.RowKit Go.Shelf Mr
attribute [local go_sem] Oper.semAt_some
set_option maxRecDepth 100000 in
theorem bwd_empty (n Bs cap : Nat) (a : Option Addr) (I : Nat → World → Prop) (hI : ∀ k W, I k W → W.cell? ⟨Bs, 0, none⟩ = some (.slice a 0 cap)) :
    Hands n Try.prog 46 #[.pointer (some ⟨Bs, 0, none⟩)] (fun x : Nat × Acc => #[Value.int .i64 (x.1 : Int), Acc.val x.2]) [] I := by
  intro l J W hJI h0 hY
  have bs := hI 0 W (hJI 0 W h0)
  refine callsIn_of_wp Try.func46 rfl trivial ?_ rfl
  simp only [Try.ntmps46, List.size_toArray, List.length_cons, List.length_nil, Nat.reduceAdd, Nat.reduceSub, Array.replicate_succ, Array.replicate_zero, List.push_toArray, List.append_toArray, List.nil_append, List.cons_append]
  gi_wp2
  gi_loopw [3] (fun i wr => i = .int .i64 (-1) ∧ J 0 wr) (fun _ _ => 0)
  case atStart => exact ⟨rfl, h0⟩
  case round =>
    obtain ⟨rfl, hJs⟩ := hrel
    gi_wp2
    go_end0
    exact ⟨⟨_, rfl⟩, hJs⟩
set_option maxRecDepth 100000 in
set_option maxHeartbeats 1000000 in
theorem back_nil0 {W : World} {S : Nat → Prop} {b : Nat} {vw va : Value} {ws : List Int} {mv : Int} {lg : List Acc} {ah : List Int} (h : Mem W S b vw (Value.slice none 0 0) va ws mv lg ah) :
    Calls Try.prog 14 #[.pointer (some ⟨b, 0, none⟩), .int .i64 (lg.length : Int)] W fun e w' => e = .returned (.int .i64 0) ∧ (∃ vl' va', Mem w' S b vw vl' va' ws mv lg ah) ∧ Fr W w' S := by
  have hB : ∀ o, Below W.heap.size W (W.alloc o) := fun o => (Below.refl _ _).alloc (Nat.le_refl _) o
  have C := fun o => callsIn_wide (n := 4) |>.2 (count_any (h.below (hB o)))
  obtain ⟨aa, ca, hva, hla⟩ := h.ha.form
  subst hva
  have hlt := h.lt
  have hl0 : lg.length = 0 := by
    obtain ⟨a', c', e, hle⟩ := h.hl.form
    injection e with e1 e2 e3
    exact e2.symm
  have hn := Mr.hid hl0
  rw [hl0]
  have c2 : ∀ o, (W.alloc o).cell? ⟨b, 2, none⟩ = some (Value.slice none 0 0) := fun o => by rw [World.cell?_alloc_past _ _ _ hlt]; exact h.c2
  have c3 : ∀ o, (W.alloc o).cell? ⟨b, 3, none⟩ = some (.slice aa ah.length ca) := fun o => by rw [World.cell?_alloc_past _ _ _ hlt]; exact h.c3
  have c22 : ∀ o p, ((W.alloc o).alloc p).cell? ⟨b, 2, none⟩ = some (Value.slice none 0 0) := fun o p => by rw [World.cell?_alloc_past _ _ _ (by simp; omega)]; exact c2 o
  refine (callsIn_wide (n := 5)).1 ?_
  refine callsIn_of_wp_marks Try.func14 rfl trivial ?_ rfl
  simp only [Try.ntmps14, List.size_toArray, List.length_cons, List.length_nil, Nat.reduceAdd, Nat.reduceSub, Array.replicate_succ, Array.replicate_zero, List.push_toArray, List.append_toArray, List.nil_append, List.cons_append]
  gi_wp2_with (first | (refine ⟨trivial, ?_⟩; gi_at_call 12; refine (C _).mono ?_; rintro e w' ⟨rfl, rfl⟩) | (refine ⟨trivial, ?_⟩; gi_at_call 29; refine (callsIn_wide.2 (bwd_any _ _ _ _)).mono ?_; rintro e w' ⟨rfl, rfl⟩))
  obtain ⟨W3, hW3⟩ : ∃ W3, (((W.alloc (.cells #[.pointer (some ⟨b, 0, none⟩)] 25)).alloc (.cells #[.int .i64 (ah.length : Int)] 3)).alloc (.cells #[Value.slice none 0 0] 35)) = W3 := ⟨_, rfl⟩
  rw [hW3]
  have b0 : Boxed W3 W.heap.size 25 (.pointer (some ⟨b, 0, none⟩)) := by rw [← hW3]; exact ((Boxed.new W 25 _).alloc _).alloc _
  have b1 : Boxed W3 (W.heap.size + 1) 3 (.int .i64 (ah.length : Int)) := by
    rw [← hW3]
    have := Boxed.new (W.alloc (.cells #[.pointer (some ⟨b, 0, none⟩)] 25)) 3 (.int .i64 (ah.length : Int))
    rw [World.size_alloc] at this
    exact this.alloc _
  have b2 : Boxed W3 (W.heap.size + 1 + 1) 35 (Value.slice none 0 0) := by
    rw [← hW3]
    have := Boxed.new ((W.alloc (.cells #[.pointer (some ⟨b, 0, none⟩)] 25)).alloc (.cells #[.int .i64 (ah.length : Int)] 3)) 35 (Value.slice none 0 0)
    rw [World.size_alloc, World.size_alloc] at this
    exact this
  have hB3 : Below W.heap.size W W3 := by
    rw [← hW3]
    exact (((Below.refl _ W).alloc (Nat.le_refl _) _).alloc (by simp) _).alloc (by simp; omega) _
  have hs3 : W3.heap.size = W.heap.size + 1 + 1 + 1 := by rw [← hW3]; simp
  clear hW3 c2 c3 c22 C
  refine range_next (α := Nat × Acc) (gf := 46) (lb := #[.pointer (some ⟨W.heap.size + 1 + 1, 0, none⟩)]) rfl (by omega) (enters_of Try.func46 (by kernel_rfl) rfl) (encs := fun x : Nat × Acc => #[Value.int .i64 (x.1 : Int), Acc.val x.2]) (ys := []) (fun _ => rfl)
    (fun _ W' => (Boxed W' W.heap.size 25 (.pointer (some ⟨b, 0, none⟩)) ∧ Boxed W' (W.heap.size + 1) 3 (.int .i64 (ah.length : Int)) ∧ Boxed W' (W.heap.size + 1 + 1) 35 (Value.slice none 0 0)) ∧ Mem W' (fun k => S k ∧ k < W.heap.size) b vw (Value.slice none 0 0) (.slice aa ah.length ca) ws mv lg ah ∧ Fr W W' S)
    ?abides ?new ?start ?hands (fun _ _ _ => True) ?ax ?assign ?body ?done
  case abides =>
    rintro k W' l o o' ⟨⟨h1, h2, h3⟩, hm, hf⟩ hl ho hoc
    have oth : ∀ {B t : Nat} {v : Value}, Boxed W' B t v → B < W3.heap.size → Boxed (W'.putObj l o') B t v := fun {B t v} hb hlt => (World.putObj_heap_other (by omega)).trans hb
    exact ⟨⟨oth h1 (by omega), oth h2 (by omega), oth h3 (by omega)⟩, hm.kept (fun k hk _ => World.putObj_heap_other (by omega)), Fr.put hf _ (by omega)⟩
  case new =>
    rintro W' o ⟨⟨h1, h2, h3⟩, hm, hf⟩
    exact ⟨⟨h1.alloc _, h2.alloc _, h3.alloc _⟩, hm.below ((Below.refl _ _).alloc (Nat.le_refl _) _), hf.alloc _⟩
  case start => exact ⟨⟨b0, b1, b2⟩, h.narrow.below hB3, Fr.of_below hB3⟩
  case hands => exact bwd_empty 4 _ _ _ _ (fun k W' hi => hi.1.2.2.cell)
  case ax =>
    rintro x a' k W' l o o' _ _ _ _
    trivial
  case assign =>
    rintro l k x Wb K hx _ _
    simp at hx
  case body =>
    rintro l k x a' Wb hx _ _
    simp at hx
  case done =>
    rintro D Wd hD ⟨⟨h1, h2, h3⟩, hm, hf⟩ hK
    have k1 := h1.cell
    have k2 := h2.cell
    have z2 := hm.c2
    have z3 := hm.c3
    have f2 := hm.fz 2
    have f3 := hm.fz 3
    have ne1 : W.heap.size ≠ b := by omega
    have ne2 : W.heap.size + 1 ≠ b := by omega
    have ne1' : b ≠ W.heap.size := by omega
    have ne2' : b ≠ W.heap.size + 1 := by omega
    clear hn
    gi_wp2
    gi_region
    gi_wp2
    have zs : Mem (Wd.setCell ⟨b, 2, none⟩ (Value.slice none 0 0)).drew (fun k => S k ∧ k < W.heap.size) b vw (Value.slice none 0 0) (.slice aa ah.length ca) ws mv lg ah := by
      refine Mem.below (W := Wd.setCell ⟨b, 2, none⟩ (Value.slice none 0 0)) ⟨by rw [setBlk hm.blk]; rfl, hm.inb, hm.hw.setCell _ _ hm.bw, ?_, hm.ha.setCell _ _ hm.ba, hm.ne, hm.len⟩ (Below.refl _ _).drew
      exact hm.hl.setCell _ _ hm.bl
    have h1' : Boxed (Wd.setCell ⟨b, 2, none⟩ (Value.slice none 0 0)).drew W.heap.size 25 (.pointer (some ⟨b, 0, none⟩)) := (Below.heap_setCell Wd ⟨b, 2, none⟩ _ _ ne1).trans h1
    have h2' : Boxed (Wd.setCell ⟨b, 2, none⟩ (Value.slice none 0 0)).drew (W.heap.size + 1) 3 (.int .i64 (ah.length : Int)) := (Below.heap_setCell Wd ⟨b, 2, none⟩ _ _ ne2).trans h2
    have hK' : (Wd.setCell ⟨b, 2, none⟩ (Value.slice none 0 0)).drew.heap[D]? = some (.deferred (some [])) := (Below.heap_setCell Wd ⟨b, 2, none⟩ _ D (fun e => by have e' : D = b := e; omega)).trans hK
    have hF : Fr W (Wd.setCell ⟨b, 2, none⟩ (Value.slice none 0 0)).drew S := (hf.setCell ⟨b, 2, none⟩ _ (.inl hm.inb.1)).drew
    clear hK z2 z3 f2 f3 k1 k2 h1 h2 h3 hm hf
    generalize (Wd.setCell ⟨b, 2, none⟩ (Value.slice none 0 0)).drew = W6 at *
    have k1 := h1'.cell
    have k2 := h2'.cell
    have z3 := zs.c3
    have f3 := zs.fz 3
    have cut : Has W6 (fun k => S k ∧ k < W.heap.size) 31 1 (.slice aa ah.length (if aa.isSome then ah.length else 0)) ah.length (wrd ah) := by
      rcases zs.ha.2 with ⟨e, e0⟩ | ⟨ga, ca', cur, e, hS, hg, _⟩
      · injection e with e1 e2 e3
        subst e1
        have : ah = [] := List.eq_nil_of_length_eq_zero (by omega)
        rw [this]
        exact Has.nil _ _ _ _
      · injection e with e1 e2 e3
        subst e1
        have := has_cut zs.ha ah.length (Nat.le_refl _)
        rw [Nat.mul_one, ← wrd_take, List.take_length] at this
        exact this
    have hz : aa = none → ca = 0 ∧ ah.length = 0 := by
      intro e
      rcases zs.ha.2 with ⟨e', e0⟩ | ⟨ga, ca', cur, e', _⟩
      · injection e' with e1 e2 e3; exact ⟨e3, e0⟩
      · injection e' with e1 e2 e3; rw [e] at e1; cases e1
    generalize hL : ah.length = L at *
    have hLca : L ≤ ca := by omega
    have hLca' : (L : Int) ≤ (ca : Int) := by omega
    refine wpIn_wide.2 (wp_region_noPanic (wp_region_held_drew (S := fun w' => w'.cell? ⟨W.heap.size, 0, none⟩ = some (.pointer (some ⟨b, 0, none⟩)) ∧ w'.cell? ⟨W.heap.size + 1, 0, none⟩ = some (.int .i64 (L : Int))) (by kernel_rfl) ⟨k1, k2⟩ (fun hS => ?_)))
    refine wpAnyH_take (i := 0) (v := .pointer (some ⟨b, 0, none⟩)) rfl (by kernel_rfl) (by kernel_rfl) (by kernel_rfl) (fun _ _ _ h => h) (Or.inl ⟨by rfl, fun w' hw => ?y0⟩) hS ?_
    case y0 =>
      obtain ⟨s1, s2⟩ := hw
      clear hS k1 k2
      go_simp
    refine wpAnyH_take (i := 1) (v := .pointer (some ⟨b, 0, none⟩)) rfl (by kernel_rfl) (by kernel_rfl) (by kernel_rfl) (fun _ _ _ h => h) (Or.inl ⟨by rfl, fun w' hw => ?y1⟩) hS ?_
    case y1 =>
      obtain ⟨s1, s2⟩ := hw
      clear hS k1 k2
      go_simp
    refine wpAnyH_take (i := 2) (v := .pointer (some ⟨b, 0, none⟩)) rfl (by kernel_rfl) (by kernel_rfl) (by kernel_rfl) (fun _ _ _ h => h) (Or.inl ⟨by rfl, fun w' hw => ?y2⟩) hS ?_
    case y2 =>
      obtain ⟨s1, s2⟩ := hw
      clear hS k1 k2
      go_simp
    refine wpAnyH_take (i := 3) (v := .pointer (some ⟨b, 3, none⟩)) rfl (by kernel_rfl) (by kernel_rfl) (by kernel_rfl) (fun _ _ _ h => h) (Or.inl ⟨by rfl, fun w' hw => ?y3⟩) hS ?_
    case y3 =>
      obtain ⟨s1, s2⟩ := hw
      clear hS k1 k2
      go_simp
    refine wpAnyH_take (i := 5) (v := .int .i64 (L : Int)) rfl (by kernel_rfl) (by kernel_rfl) (by kernel_rfl) (fun _ _ _ h => h) (Or.inl ⟨by rfl, fun w' hw => ?y5⟩) hS ?_
    case y5 =>
      obtain ⟨s1, s2⟩ := hw
      clear hS k1 k2
      go_simp
    refine wpAnyH_take (i := 6) (v := .int .i64 (L : Int)) rfl (by kernel_rfl) (by kernel_rfl) (by kernel_rfl) (fun _ _ _ h => h) (Or.inl ⟨by rfl, fun w' hw => ?y6⟩) hS ?_
    case y6 =>
      obtain ⟨s1, s2⟩ := hw
      clear hS k1 k2
      go_simp
    refine wpAnyH_ready (rs := [4]) (by kernel_rfl) (by simp) (AllReadyH.cons rfl (fun K hK => ?_) AllReadyH.nil)
    have z3d : W6.drew.cell? ⟨b, 3, none⟩ = some (.slice aa L ca) := z3
    go_simp
    refine hK.out _ _ hS (fun hS => ?_)
    clear hK K
    refine wpAnyH_take (i := 7) (v := .slice aa L (if aa.isSome then L else 0)) rfl (by kernel_rfl) (by kernel_rfl) (by kernel_rfl) (fun _ _ _ h => h) (Or.inl ⟨by rfl, fun w' hw => ?y7⟩) hS ?_
    case y7 =>
      clear hS k1 k2
      cases aa with
      | none =>
        obtain ⟨rfl, rfl⟩ := hz rfl
        go_simp
      | some ad =>
        go_simp
    refine wpAnyH_take (i := 8) (v := .pointer (some ⟨b, 0, none⟩)) rfl (by kernel_rfl) (by kernel_rfl) (by kernel_rfl) (fun _ _ _ h => h) (Or.inl ⟨by rfl, fun w' hw => ?y8⟩) hS ?_
    case y8 =>
      obtain ⟨s1, s2⟩ := hw
      clear hS k1 k2
      go_simp
    refine wpAnyH_take (i := 9) (v := .pointer (some ⟨b, 3, none⟩)) rfl (by kernel_rfl) (by kernel_rfl) (by kernel_rfl) (fun _ _ _ h => h) (Or.inl ⟨by rfl, fun w' hw => ?y9⟩) hS ?_
    case y9 =>
      obtain ⟨s1, s2⟩ := hw
      clear hS k1 k2
      go_simp
    refine wpAnyH_ready (rs := [10]) (by kernel_rfl) (by simp) (AllReadyH.cons rfl (fun K hK => ?_) AllReadyH.nil)
    have f3d : W6.drew.frozen? ⟨b, 3, none⟩ = false := f3
    generalize (if aa.isSome then L else 0) = cp at *
    go_simp
    refine hK.out _ _ ⟨(World.cell?_setCell_far W6 ⟨b, 3, none⟩ _ (.slice aa L cp) ne1').trans k1, (World.cell?_setCell_far W6 ⟨b, 3, none⟩ _ (.slice aa L cp) ne2').trans k2⟩ (fun _ => wpAnyH_done (by kernel_rfl) (NoPanic.normal ?_) _)
    clear hK K
    have fin : Mem (W6.setCell ⟨b, 3, none⟩ (.slice aa L cp)).drew (fun k => S k ∧ k < W.heap.size) b vw (Value.slice none 0 0) (.slice aa L cp) ws mv lg ah := by
      refine Mem.below (W := W6.setCell ⟨b, 3, none⟩ (.slice aa L cp)) ⟨by rw [setBlk zs.blk]; rfl, zs.inb, zs.hw.setCell _ _ zs.bw, zs.hl.setCell _ _ zs.bl, ?_, ?_, zs.len⟩ (Below.refl _ _).drew
      · rw [hL]
        refine cut.setCell _ _ ?_
        intro e
        have := zs.ba
        cases aa with
        | none => simp [Value.ownBlock] at e
        | some ad => exact this (by simpa [Value.ownBlock] using e)
      · intro k hk e
        have := zs.ne k hk
        cases aa with
        | none => simp [Value.ownBlock] at e
        | some ad => exact this (by simpa [Value.ownBlock] using e)
    have hF6 : Fr W (W6.setCell ⟨b, 3, none⟩ (.slice aa L cp)).drew S := (hF.setCell ⟨b, 3, none⟩ _ (.inl zs.inb.1)).drew
    have hK6 : (W6.setCell ⟨b, 3, none⟩ (.slice aa L cp)).drew.heap[D]? = some (.deferred (some [])) := (Below.heap_setCell W6 ⟨b, 3, none⟩ _ D (fun e => by have e' : D = b := e; omega)).trans hK'
    gi_wp2
    refine ⟨by simp, .inl ⟨_, _, rfl, run_takeDeferred (w := (W6.setCell ⟨b, 3, none⟩ (.slice aa L cp)).drew) hK6, ?_⟩⟩
    refine ⟨.int .i64 0, by simp [results, Try.f14, go_sem], rfl, ⟨Value.slice none 0 0, .slice aa L cp, ?_⟩, ?_⟩
    · refine Mem.mono (S := fun k => S k ∧ k < W.heap.size) ?_ (fun k hk => hk.1)
      exact fin.kept (fun k hk _ => World.putObj_heap_other (by have := hk.2; omega))
    · exact Fr.put hF6 _ (by omega)
set_option maxRecDepth 100000 in
set_option maxHeartbeats 1000000 in
theorem back_tight {W : World} {S : Nat → Prop} {b g : Nat} {vw va : Value} {ws : List Int} {mv : Int} {lg : List Acc} {ah : List Int} (h : Mem W S b vw (Value.slice (some ⟨g, 0, none⟩) lg.length lg.length) va ws mv lg ah) :
    Calls Try.prog 14 #[.pointer (some ⟨b, 0, none⟩), .int .i64 (lg.length : Int)] W fun e w' => e = .returned (.int .i64 0) ∧ (∃ vl' va', Mem w' S b vw vl' va' ws mv lg ah) ∧ Fr W w' S := by
  have hB : ∀ o, Below W.heap.size W (W.alloc o) := fun o => (Below.refl _ _).alloc (Nat.le_refl _) o
  have C := fun o => callsIn_wide (n := 4) |>.2 (count_any (h.below (hB o)))
  obtain ⟨aa, ca, hva, hla⟩ := h.ha.form
  subst hva
  have hlt := h.lt
  have hd0 : decide ((lg.length : Int) < 0) = false := by simp
  have c2 : ∀ o, (W.alloc o).cell? ⟨b, 2, none⟩ = some (Value.slice (some ⟨g, 0, none⟩) lg.length lg.length) := fun o => by rw [World.cell?_alloc_past _ _ _ hlt]; exact h.c2
  have c3 : ∀ o, (W.alloc o).cell? ⟨b, 3, none⟩ = some (.slice aa ah.length ca) := fun o => by rw [World.cell?_alloc_past _ _ _ hlt]; exact h.c3
  have c22 : ∀ o p, ((W.alloc o).alloc p).cell? ⟨b, 2, none⟩ = some (Value.slice (some ⟨g, 0, none⟩) lg.length lg.length) := fun o p => by rw [World.cell?_alloc_past _ _ _ (by simp; omega)]; exact c2 o
  refine (callsIn_wide (n := 5)).1 ?_
  refine callsIn_of_wp_marks Try.func14 rfl trivial ?_ rfl
  simp only [Try.ntmps14, List.size_toArray, List.length_cons, List.length_nil, Nat.reduceAdd, Nat.reduceSub, Array.replicate_succ, Array.replicate_zero, List.push_toArray, List.append_toArray, List.nil_append, List.cons_append]
  gi_wp2_with (first | (refine ⟨trivial, ?_⟩; gi_at_call 12; refine (C _).mono ?_; rintro e w' ⟨rfl, rfl⟩) | (refine ⟨trivial, ?_⟩; gi_at_call 29; refine (callsIn_wide.2 (bwd_any _ _ _ _)).mono ?_; rintro e w' ⟨rfl, rfl⟩))
  obtain ⟨W3, hW3⟩ : ∃ W3, (((W.alloc (.cells #[.pointer (some ⟨b, 0, none⟩)] 25)).alloc (.cells #[.int .i64 (ah.length : Int)] 3)).alloc (.cells #[Value.slice (some ⟨g, 0, none⟩) 0 0] 35)) = W3 := ⟨_, rfl⟩
  rw [hW3]
  have b0 : Boxed W3 W.heap.size 25 (.pointer (some ⟨b, 0, none⟩)) := by rw [← hW3]; exact ((Boxed.new W 25 _).alloc _).alloc _
  have b1 : Boxed W3 (W.heap.size + 1) 3 (.int .i64 (ah.length : Int)) := by
    rw [← hW3]
    have := Boxed.new (W.alloc (.cells #[.pointer (some ⟨b, 0, none⟩)] 25)) 3 (.int .i64 (ah.length : Int))
    rw [World.size_alloc] at this
    exact this.alloc _
  have b2 : Boxed W3 (W.heap.size + 1 + 1) 35 (Value.slice (some ⟨g, 0, none⟩) 0 0) := by
    rw [← hW3]
    have := Boxed.new ((W.alloc (.cells #[.pointer (some ⟨b, 0, none⟩)] 25)).alloc (.cells #[.int .i64 (ah.length : Int)] 3)) 35 (Value.slice (some ⟨g, 0, none⟩) 0 0)
    rw [World.size_alloc, World.size_alloc] at this
    exact this
  have hB3 : Below W.heap.size W W3 := by
    rw [← hW3]
    exact (((Below.refl _ W).alloc (Nat.le_refl _) _).alloc (by simp) _).alloc (by simp; omega) _
  have hs3 : W3.heap.size = W.heap.size + 1 + 1 + 1 := by rw [← hW3]; simp
  clear hW3 c2 c3 c22 C
  refine range_next (α := Nat × Acc) (gf := 46) (lb := #[.pointer (some ⟨W.heap.size + 1 + 1, 0, none⟩)]) rfl (by omega) (enters_of Try.func46 (by kernel_rfl) rfl) (encs := fun x : Nat × Acc => #[Value.int .i64 (x.1 : Int), Acc.val x.2]) (ys := []) (fun _ => rfl)
    (fun _ W' => (Boxed W' W.heap.size 25 (.pointer (some ⟨b, 0, none⟩)) ∧ Boxed W' (W.heap.size + 1) 3 (.int .i64 (ah.length : Int)) ∧ Boxed W' (W.heap.size + 1 + 1) 35 (Value.slice (some ⟨g, 0, none⟩) 0 0)) ∧ Mem W' (fun k => S k ∧ k < W.heap.size) b vw (Value.slice (some ⟨g, 0, none⟩) lg.length lg.length) (.slice aa ah.length ca) ws mv lg ah ∧ Fr W W' S)
    ?abides ?new ?start ?hands (fun _ _ _ => True) ?ax ?assign ?body ?done
  case abides =>
    rintro k W' l o o' ⟨⟨h1, h2, h3⟩, hm, hf⟩ hl ho hoc
    have oth : ∀ {B t : Nat} {v : Value}, Boxed W' B t v → B < W3.heap.size → Boxed (W'.putObj l o') B t v := fun {B t v} hb hlt => (World.putObj_heap_other (by omega)).trans hb
    exact ⟨⟨oth h1 (by omega), oth h2 (by omega), oth h3 (by omega)⟩, hm.kept (fun k hk _ => World.putObj_heap_other (by omega)), Fr.put hf _ (by omega)⟩
  case new =>
    rintro W' o ⟨⟨h1, h2, h3⟩, hm, hf⟩
    exact ⟨⟨h1.alloc _, h2.alloc _, h3.alloc _⟩, hm.below ((Below.refl _ _).alloc (Nat.le_refl _) _), hf.alloc _⟩
  case start => exact ⟨⟨b0, b1, b2⟩, h.narrow.below hB3, Fr.of_below hB3⟩
  case hands => exact bwd_empty 4 _ _ _ _ (fun k W' hi => hi.1.2.2.cell)
  case ax =>
    rintro x a' k W' l o o' _ _ _ _
    trivial
  case assign =>
    rintro l k x Wb K hx _ _
    simp at hx
  case body =>
    rintro l k x a' Wb hx _ _
    simp at hx
  case done =>
    rintro D Wd hD ⟨⟨h1, h2, h3⟩, hm, hf⟩ hK
    have k1 := h1.cell
    have k2 := h2.cell
    have z2 := hm.c2
    have z3 := hm.c3
    have f2 := hm.fz 2
    have f3 := hm.fz 3
    have ne1 : W.heap.size ≠ b := by omega
    have ne2 : W.heap.size + 1 ≠ b := by omega
    have ne1' : b ≠ W.heap.size := by omega
    have ne2' : b ≠ W.heap.size + 1 := by omega
    have hcutL := has_cut hm.hl lg.length (Nat.le_refl _)
    rw [← lgc_take, List.take_length] at hcutL
    gi_wp2
    gi_region
    gi_wp2
    have zs : Mem (Wd.setCell ⟨b, 2, none⟩ (Value.slice (some ⟨g, 0, none⟩) lg.length lg.length)).drew (fun k => S k ∧ k < W.heap.size) b vw (Value.slice (some ⟨g, 0, none⟩) lg.length lg.length) (.slice aa ah.length ca) ws mv lg ah := by
      refine Mem.below (W := Wd.setCell ⟨b, 2, none⟩ (Value.slice (some ⟨g, 0, none⟩) lg.length lg.length)) ⟨by rw [setBlk hm.blk]; rfl, hm.inb, hm.hw.setCell _ _ hm.bw, ?_, hm.ha.setCell _ _ hm.ba, hm.ne, hm.len⟩ (Below.refl _ _).drew
      exact hcutL.setCell _ _ hm.bl
    have h1' : Boxed (Wd.setCell ⟨b, 2, none⟩ (Value.slice (some ⟨g, 0, none⟩) lg.length lg.length)).drew W.heap.size 25 (.pointer (some ⟨b, 0, none⟩)) := (Below.heap_setCell Wd ⟨b, 2, none⟩ _ _ ne1).trans h1
    have h2' : Boxed (Wd.setCell ⟨b, 2, none⟩ (Value.slice (some ⟨g, 0, none⟩) lg.length lg.length)).drew (W.heap.size + 1) 3 (.int .i64 (ah.length : Int)) := (Below.heap_setCell Wd ⟨b, 2, none⟩ _ _ ne2).trans h2
    have hK' : (Wd.setCell ⟨b, 2, none⟩ (Value.slice (some ⟨g, 0, none⟩) lg.length lg.length)).drew.heap[D]? = some (.deferred (some [])) := (Below.heap_setCell Wd ⟨b, 2, none⟩ _ D (fun e => by have e' : D = b := e; omega)).trans hK
    have hF : Fr W (Wd.setCell ⟨b, 2, none⟩ (Value.slice (some ⟨g, 0, none⟩) lg.length lg.length)).drew S := (hf.setCell ⟨b, 2, none⟩ _ (.inl hm.inb.1)).drew
    clear hK z2 z3 f2 f3 k1 k2 h1 h2 h3 hm hf
    generalize (Wd.setCell ⟨b, 2, none⟩ (Value.slice (some ⟨g, 0, none⟩) lg.length lg.length)).drew = W6 at *
    have k1 := h1'.cell
    have k2 := h2'.cell
    have z3 := zs.c3
    have f3 := zs.fz 3
    have cut : Has W6 (fun k => S k ∧ k < W.heap.size) 31 1 (.slice aa ah.length (if aa.isSome then ah.length else 0)) ah.length (wrd ah) := by
      rcases zs.ha.2 with ⟨e, e0⟩ | ⟨ga, ca', cur, e, hS, hg, _⟩
      · injection e with e1 e2 e3
        subst e1
        have : ah = [] := List.eq_nil_of_length_eq_zero (by omega)
        rw [this]
        exact Has.nil _ _ _ _
      · injection e with e1 e2 e3
        subst e1
        have := has_cut zs.ha ah.length (Nat.le_refl _)
        rw [Nat.mul_one, ← wrd_take, List.take_length] at this
        exact this
    have hz : aa = none → ca = 0 ∧ ah.length = 0 := by
      intro e
      rcases zs.ha.2 with ⟨e', e0⟩ | ⟨ga, ca', cur, e', _⟩
      · injection e' with e1 e2 e3; exact ⟨e3, e0⟩
      · injection e' with e1 e2 e3; rw [e] at e1; cases e1
    generalize hL : ah.length = L at *
    have hLca : L ≤ ca := by omega
    have hLca' : (L : Int) ≤ (ca : Int) := by omega
    refine wpIn_wide.2 (wp_region_noPanic (wp_region_held_drew (S := fun w' => w'.cell? ⟨W.heap.size, 0, none⟩ = some (.pointer (some ⟨b, 0, none⟩)) ∧ w'.cell? ⟨W.heap.size + 1, 0, none⟩ = some (.int .i64 (L : Int))) (by kernel_rfl) ⟨k1, k2⟩ (fun hS => ?_)))
    refine wpAnyH_take (i := 0) (v := .pointer (some ⟨b, 0, none⟩)) rfl (by kernel_rfl) (by kernel_rfl) (by kernel_rfl) (fun _ _ _ h => h) (Or.inl ⟨by rfl, fun w' hw => ?y0⟩) hS ?_
    case y0 =>
      obtain ⟨s1, s2⟩ := hw
      clear hS k1 k2
      go_simp
    refine wpAnyH_take (i := 1) (v := .pointer (some ⟨b, 0, none⟩)) rfl (by kernel_rfl) (by kernel_rfl) (by kernel_rfl) (fun _ _ _ h => h) (Or.inl ⟨by rfl, fun w' hw => ?y1⟩) hS ?_
    case y1 =>
      obtain ⟨s1, s2⟩ := hw
      clear hS k1 k2
      go_simp
    refine wpAnyH_take (i := 2) (v := .pointer (some ⟨b, 0, none⟩)) rfl (by kernel_rfl) (by kernel_rfl) (by kernel_rfl) (fun _ _ _ h => h) (Or.inl ⟨by rfl, fun w' hw => ?y2⟩) hS ?_
    case y2 =>
      obtain ⟨s1, s2⟩ := hw
      clear hS k1 k2
      go_simp
    refine wpAnyH_take (i := 3) (v := .pointer (some ⟨b, 3, none⟩)) rfl (by kernel_rfl) (by kernel_rfl) (by kernel_rfl) (fun _ _ _ h => h) (Or.inl ⟨by rfl, fun w' hw => ?y3⟩) hS ?_
    case y3 =>
      obtain ⟨s1, s2⟩ := hw
      clear hS k1 k2
      go_simp
    refine wpAnyH_take (i := 5) (v := .int .i64 (L : Int)) rfl (by kernel_rfl) (by kernel_rfl) (by kernel_rfl) (fun _ _ _ h => h) (Or.inl ⟨by rfl, fun w' hw => ?y5⟩) hS ?_
    case y5 =>
      obtain ⟨s1, s2⟩ := hw
      clear hS k1 k2
      go_simp
    refine wpAnyH_take (i := 6) (v := .int .i64 (L : Int)) rfl (by kernel_rfl) (by kernel_rfl) (by kernel_rfl) (fun _ _ _ h => h) (Or.inl ⟨by rfl, fun w' hw => ?y6⟩) hS ?_
    case y6 =>
      obtain ⟨s1, s2⟩ := hw
      clear hS k1 k2
      go_simp
    refine wpAnyH_ready (rs := [4]) (by kernel_rfl) (by simp) (AllReadyH.cons rfl (fun K hK => ?_) AllReadyH.nil)
    have z3d : W6.drew.cell? ⟨b, 3, none⟩ = some (.slice aa L ca) := z3
    go_simp
    refine hK.out _ _ hS (fun hS => ?_)
    clear hK K
    refine wpAnyH_take (i := 7) (v := .slice aa L (if aa.isSome then L else 0)) rfl (by kernel_rfl) (by kernel_rfl) (by kernel_rfl) (fun _ _ _ h => h) (Or.inl ⟨by rfl, fun w' hw => ?y7⟩) hS ?_
    case y7 =>
      clear hS k1 k2
      cases aa with
      | none =>
        obtain ⟨rfl, rfl⟩ := hz rfl
        go_simp
      | some ad =>
        go_simp
    refine wpAnyH_take (i := 8) (v := .pointer (some ⟨b, 0, none⟩)) rfl (by kernel_rfl) (by kernel_rfl) (by kernel_rfl) (fun _ _ _ h => h) (Or.inl ⟨by rfl, fun w' hw => ?y8⟩) hS ?_
    case y8 =>
      obtain ⟨s1, s2⟩ := hw
      clear hS k1 k2
      go_simp
    refine wpAnyH_take (i := 9) (v := .pointer (some ⟨b, 3, none⟩)) rfl (by kernel_rfl) (by kernel_rfl) (by kernel_rfl) (fun _ _ _ h => h) (Or.inl ⟨by rfl, fun w' hw => ?y9⟩) hS ?_
    case y9 =>
      obtain ⟨s1, s2⟩ := hw
      clear hS k1 k2
      go_simp
    refine wpAnyH_ready (rs := [10]) (by kernel_rfl) (by simp) (AllReadyH.cons rfl (fun K hK => ?_) AllReadyH.nil)
    have f3d : W6.drew.frozen? ⟨b, 3, none⟩ = false := f3
    generalize (if aa.isSome then L else 0) = cp at *
    go_simp
    refine hK.out _ _ ⟨(World.cell?_setCell_far W6 ⟨b, 3, none⟩ _ (.slice aa L cp) ne1').trans k1, (World.cell?_setCell_far W6 ⟨b, 3, none⟩ _ (.slice aa L cp) ne2').trans k2⟩ (fun _ => wpAnyH_done (by kernel_rfl) (NoPanic.normal ?_) _)
    clear hK K
    have fin : Mem (W6.setCell ⟨b, 3, none⟩ (.slice aa L cp)).drew (fun k => S k ∧ k < W.heap.size) b vw (Value.slice (some ⟨g, 0, none⟩) lg.length lg.length) (.slice aa L cp) ws mv lg ah := by
      refine Mem.below (W := W6.setCell ⟨b, 3, none⟩ (.slice aa L cp)) ⟨by rw [setBlk zs.blk]; rfl, zs.inb, zs.hw.setCell _ _ zs.bw, zs.hl.setCell _ _ zs.bl, ?_, ?_, zs.len⟩ (Below.refl _ _).drew
      · rw [hL]
        refine cut.setCell _ _ ?_
        intro e
        have := zs.ba
        cases aa with
        | none => simp [Value.ownBlock] at e
        | some ad => exact this (by simpa [Value.ownBlock] using e)
      · intro k hk e
        have := zs.ne k hk
        cases aa with
        | none => simp [Value.ownBlock] at e
        | some ad => exact this (by simpa [Value.ownBlock] using e)
    have hF6 : Fr W (W6.setCell ⟨b, 3, none⟩ (.slice aa L cp)).drew S := (hF.setCell ⟨b, 3, none⟩ _ (.inl zs.inb.1)).drew
    have hK6 : (W6.setCell ⟨b, 3, none⟩ (.slice aa L cp)).drew.heap[D]? = some (.deferred (some [])) := (Below.heap_setCell W6 ⟨b, 3, none⟩ _ D (fun e => by have e' : D = b := e; omega)).trans hK'
    gi_wp2
    refine ⟨by simp, .inl ⟨_, _, rfl, run_takeDeferred (w := (W6.setCell ⟨b, 3, none⟩ (.slice aa L cp)).drew) hK6, ?_⟩⟩
    refine ⟨.int .i64 0, by simp [results, Try.f14, go_sem], rfl, ⟨Value.slice (some ⟨g, 0, none⟩) lg.length lg.length, .slice aa L cp, ?_⟩, ?_⟩
    · refine Mem.mono (S := fun k => S k ∧ k < W.heap.size) ?_ (fun k hk => hk.1)
      exact fin.kept (fun k hk _ => World.putObj_heap_other (by have := hk.2; omega))
    · exact Fr.put hF6 _ (by omega)
set_option maxRecDepth 100000 in
set_option maxHeartbeats 1000000 in
theorem back_room {W : World} {S : Nat → Prop} {b g cap : Nat} {vw va : Value} {ws : List Int} {mv : Int} {lg : List Acc} {ah : List Int} (h : Mem W S b vw (Value.slice (some ⟨g, 0, none⟩) lg.length cap) va ws mv lg ah) (hcap : cap ≠ lg.length) :
    Calls Try.prog 14 #[.pointer (some ⟨b, 0, none⟩), .int .i64 (lg.length : Int)] W fun e w' => e = .returned (.int .i64 0) ∧ (∃ vl' va', Mem w' S b vw vl' va' ws mv lg ah) ∧ Fr W w' S := by
  have hB : ∀ o, Below W.heap.size W (W.alloc o) := fun o => (Below.refl _ _).alloc (Nat.le_refl _) o
  have C := fun o => callsIn_wide (n := 4) |>.2 (count_any (h.below (hB o)))
  obtain ⟨aa, ca, hva, hla⟩ := h.ha.form
  subst hva
  have hlt := h.lt
  have hcn : lg.length ≤ cap := by obtain ⟨a', c', e, hle⟩ := h.hl.form; cases e; exact hle
  have hcn' : (lg.length : Int) ≤ (cap : Int) := by omega
  have hcap' : lg.length ≠ cap := fun e => hcap e.symm
  have hd0 : decide ((lg.length : Int) < 0) = false := by simp
  have c2 : ∀ o, (W.alloc o).cell? ⟨b, 2, none⟩ = some (Value.slice (some ⟨g, 0, none⟩) lg.length cap) := fun o => by rw [World.cell?_alloc_past _ _ _ hlt]; exact h.c2
  have c3 : ∀ o, (W.alloc o).cell? ⟨b, 3, none⟩ = some (.slice aa ah.length ca) := fun o => by rw [World.cell?_alloc_past _ _ _ hlt]; exact h.c3
  have c22 : ∀ o p, ((W.alloc o).alloc p).cell? ⟨b, 2, none⟩ = some (Value.slice (some ⟨g, 0, none⟩) lg.length cap) := fun o p => by rw [World.cell?_alloc_past _ _ _ (by simp; omega)]; exact c2 o
  refine (callsIn_wide (n := 5)).1 ?_
  refine callsIn_of_wp_marks Try.func14 rfl trivial ?_ rfl
  simp only [Try.ntmps14, List.size_toArray, List.length_cons, List.length_nil, Nat.reduceAdd, Nat.reduceSub, Array.replicate_succ, Array.replicate_zero, List.push_toArray, List.append_toArray, List.nil_append, List.cons_append]
  gi_wp2_with (first | (refine ⟨trivial, ?_⟩; gi_at_call 12; refine (C _).mono ?_; rintro e w' ⟨rfl, rfl⟩) | (refine ⟨trivial, ?_⟩; gi_at_call 29; refine (callsIn_wide.2 (bwd_any _ _ _ _)).mono ?_; rintro e w' ⟨rfl, rfl⟩))
  obtain ⟨W3, hW3⟩ : ∃ W3, (((W.alloc (.cells #[.pointer (some ⟨b, 0, none⟩)] 25)).alloc (.cells #[.int .i64 (ah.length : Int)] 3)).alloc (.cells #[Value.slice (some ⟨g, lg.length * 7, none⟩) 0 (cap - lg.length)] 35)) = W3 := ⟨_, rfl⟩
  rw [hW3]
  have b0 : Boxed W3 W.heap.size 25 (.pointer (some ⟨b, 0, none⟩)) := by rw [← hW3]; exact ((Boxed.new W 25 _).alloc _).alloc _
  have b1 : Boxed W3 (W.heap.size + 1) 3 (.int .i64 (ah.length : Int)) := by
    rw [← hW3]
    have := Boxed.new (W.alloc (.cells #[.pointer (some ⟨b, 0, none⟩)] 25)) 3 (.int .i64 (ah.length : Int))
    rw [World.size_alloc] at this
    exact this.alloc _
  have b2 : Boxed W3 (W.heap.size + 1 + 1) 35 (Value.slice (some ⟨g, lg.length * 7, none⟩) 0 (cap - lg.length)) := by
    rw [← hW3]
    have := Boxed.new ((W.alloc (.cells #[.pointer (some ⟨b, 0, none⟩)] 25)).alloc (.cells #[.int .i64 (ah.length : Int)] 3)) 35 (Value.slice (some ⟨g, lg.length * 7, none⟩) 0 (cap - lg.length))
    rw [World.size_alloc, World.size_alloc] at this
    exact this
  have hB3 : Below W.heap.size W W3 := by
    rw [← hW3]
    exact (((Below.refl _ W).alloc (Nat.le_refl _) _).alloc (by simp) _).alloc (by simp; omega) _
  have hs3 : W3.heap.size = W.heap.size + 1 + 1 + 1 := by rw [← hW3]; simp
  clear hW3 c2 c3 c22 C
  refine range_next (α := Nat × Acc) (gf := 46) (lb := #[.pointer (some ⟨W.heap.size + 1 + 1, 0, none⟩)]) rfl (by omega) (enters_of Try.func46 (by kernel_rfl) rfl) (encs := fun x : Nat × Acc => #[Value.int .i64 (x.1 : Int), Acc.val x.2]) (ys := []) (fun _ => rfl)
    (fun _ W' => (Boxed W' W.heap.size 25 (.pointer (some ⟨b, 0, none⟩)) ∧ Boxed W' (W.heap.size + 1) 3 (.int .i64 (ah.length : Int)) ∧ Boxed W' (W.heap.size + 1 + 1) 35 (Value.slice (some ⟨g, lg.length * 7, none⟩) 0 (cap - lg.length))) ∧ Mem W' (fun k => S k ∧ k < W.heap.size) b vw (Value.slice (some ⟨g, 0, none⟩) lg.length cap) (.slice aa ah.length ca) ws mv lg ah ∧ Fr W W' S)
    ?abides ?new ?start ?hands (fun _ _ _ => True) ?ax ?assign ?body ?done
  case abides =>
    rintro k W' l o o' ⟨⟨h1, h2, h3⟩, hm, hf⟩ hl ho hoc
    have oth : ∀ {B t : Nat} {v : Value}, Boxed W' B t v → B < W3.heap.size → Boxed (W'.putObj l o') B t v := fun {B t v} hb hlt => (World.putObj_heap_other (by omega)).trans hb
    exact ⟨⟨oth h1 (by omega), oth h2 (by omega), oth h3 (by omega)⟩, hm.kept (fun k hk _ => World.putObj_heap_other (by omega)), Fr.put hf _ (by omega)⟩
  case new =>
    rintro W' o ⟨⟨h1, h2, h3⟩, hm, hf⟩
    exact ⟨⟨h1.alloc _, h2.alloc _, h3.alloc _⟩, hm.below ((Below.refl _ _).alloc (Nat.le_refl _) _), hf.alloc _⟩
  case start => exact ⟨⟨b0, b1, b2⟩, h.narrow.below hB3, Fr.of_below hB3⟩
  case hands => exact bwd_empty 4 _ _ _ _ (fun k W' hi => hi.1.2.2.cell)
  case ax =>
    rintro x a' k W' l o o' _ _ _ _
    trivial
  case assign =>
    rintro l k x Wb K hx _ _
    simp at hx
  case body =>
    rintro l k x a' Wb hx _ _
    simp at hx
  case done =>
    rintro D Wd hD ⟨⟨h1, h2, h3⟩, hm, hf⟩ hK
    have k1 := h1.cell
    have k2 := h2.cell
    have z2 := hm.c2
    have z3 := hm.c3
    have f2 := hm.fz 2
    have f3 := hm.fz 3
    have ne1 : W.heap.size ≠ b := by omega
    have ne2 : W.heap.size + 1 ≠ b := by omega
    have ne1' : b ≠ W.heap.size := by omega
    have ne2' : b ≠ W.heap.size + 1 := by omega
    have hcutL := has_cut hm.hl lg.length (Nat.le_refl _)
    rw [← lgc_take, List.take_length] at hcutL
    gi_wp2
    gi_region
    gi_wp2
    have zs : Mem (Wd.setCell ⟨b, 2, none⟩ (Value.slice (some ⟨g, 0, none⟩) lg.length lg.length)).drew (fun k => S k ∧ k < W.heap.size) b vw (Value.slice (some ⟨g, 0, none⟩) lg.length lg.length) (.slice aa ah.length ca) ws mv lg ah := by
      refine Mem.below (W := Wd.setCell ⟨b, 2, none⟩ (Value.slice (some ⟨g, 0, none⟩) lg.length lg.length)) ⟨by rw [setBlk hm.blk]; rfl, hm.inb, hm.hw.setCell _ _ hm.bw, ?_, hm.ha.setCell _ _ hm.ba, hm.ne, hm.len⟩ (Below.refl _ _).drew
      exact hcutL.setCell _ _ hm.bl
    have h1' : Boxed (Wd.setCell ⟨b, 2, none⟩ (Value.slice (some ⟨g, 0, none⟩) lg.length lg.length)).drew W.heap.size 25 (.pointer (some ⟨b, 0, none⟩)) := (Below.heap_setCell Wd ⟨b, 2, none⟩ _ _ ne1).trans h1
    have h2' : Boxed (Wd.setCell ⟨b, 2, none⟩ (Value.slice (some ⟨g, 0, none⟩) lg.length lg.length)).drew (W.heap.size + 1) 3 (.int .i64 (ah.length : Int)) := (Below.heap_setCell Wd ⟨b, 2, none⟩ _ _ ne2).trans h2
    have hK' : (Wd.setCell ⟨b, 2, none⟩ (Value.slice (some ⟨g, 0, none⟩) lg.length lg.length)).drew.heap[D]? = some (.deferred (some [])) := (Below.heap_setCell Wd ⟨b, 2, none⟩ _ D (fun e => by have e' : D = b := e; omega)).trans hK
    have hF : Fr W (Wd.setCell ⟨b, 2, none⟩ (Value.slice (some ⟨g, 0, none⟩) lg.length lg.length)).drew S := (hf.setCell ⟨b, 2, none⟩ _ (.inl hm.inb.1)).drew
    clear hK z2 z3 f2 f3 k1 k2 h1 h2 h3 hm hf
    generalize (Wd.setCell ⟨b, 2, none⟩ (Value.slice (some ⟨g, 0, none⟩) lg.length lg.length)).drew = W6 at *
    have k1 := h1'.cell
    have k2 := h2'.cell
    have z3 := zs.c3
    have f3 := zs.fz 3
    have cut : Has W6 (fun k => S k ∧ k < W.heap.size) 31 1 (.slice aa ah.length (if aa.isSome then ah.length else 0)) ah.length (wrd ah) := by
      rcases zs.ha.2 with ⟨e, e0⟩ | ⟨ga, ca', cur, e, hS, hg, _⟩
      · injection e with e1 e2 e3
        subst e1
        have : ah = [] := List.eq_nil_of_length_eq_zero (by omega)
        rw [this]
        exact Has.nil _ _ _ _
      · injection e with e1 e2 e3
        subst e1
        have := has_cut zs.ha ah.length (Nat.le_refl _)
        rw [Nat.mul_one, ← wrd_take, List.take_length] at this
        exact this
    have hz : aa = none → ca = 0 ∧ ah.length = 0 := by
      intro e
      rcases zs.ha.2 with ⟨e', e0⟩ | ⟨ga, ca', cur, e', _⟩
      · injection e' with e1 e2 e3; exact ⟨e3, e0⟩
      · injection e' with e1 e2 e3; rw [e] at e1; cases e1
    generalize hL : ah.length = L at *
    have hLca : L ≤ ca := by omega
    have hLca' : (L : Int) ≤ (ca : Int) := by omega
    refine wpIn_wide.2 (wp_region_noPanic (wp_region_held_drew (S := fun w' => w'.cell? ⟨W.heap.size, 0, none⟩ = some (.pointer (some ⟨b, 0, none⟩)) ∧ w'.cell? ⟨W.heap.size + 1, 0, none⟩ = some (.int .i64 (L : Int))) (by kernel_rfl) ⟨k1, k2⟩ (fun hS => ?_)))
    refine wpAnyH_take (i := 0) (v := .pointer (some ⟨b, 0, none⟩)) rfl (by kernel_rfl) (by kernel_rfl) (by kernel_rfl) (fun _ _ _ h => h) (Or.inl ⟨by rfl, fun w' hw => ?y0⟩) hS ?_
    case y0 =>
      obtain ⟨s1, s2⟩ := hw
      clear hS k1 k2
      go_simp
    refine wpAnyH_take (i := 1) (v := .pointer (some ⟨b, 0, none⟩)) rfl (by kernel_rfl) (by kernel_rfl) (by kernel_rfl) (fun _ _ _ h => h) (Or.inl ⟨by rfl, fun w' hw => ?y1⟩) hS ?_
    case y1 =>
      obtain ⟨s1, s2⟩ := hw
      clear hS k1 k2
      go_simp
    refine wpAnyH_take (i := 2) (v := .pointer (some ⟨b, 0, none⟩)) rfl (by kernel_rfl) (by kernel_rfl) (by kernel_rfl) (fun _ _ _ h => h) (Or.inl ⟨by rfl, fun w' hw => ?y2⟩) hS ?_
    case y2 =>
      obtain ⟨s1, s2⟩ := hw
      clear hS k1 k2
      go_simp
    refine wpAnyH_take (i := 3) (v := .pointer (some ⟨b, 3, none⟩)) rfl (by kernel_rfl) (by kernel_rfl) (by kernel_rfl) (fun _ _ _ h => h) (Or.inl ⟨by rfl, fun w' hw => ?y3⟩) hS ?_
    case y3 =>
      obtain ⟨s1, s2⟩ := hw
      clear hS k1 k2
      go_simp
    refine wpAnyH_take (i := 5) (v := .int .i64 (L : Int)) rfl (by kernel_rfl) (by kernel_rfl) (by kernel_rfl) (fun _ _ _ h => h) (Or.inl ⟨by rfl, fun w' hw => ?y5⟩) hS ?_
    case y5 =>
      obtain ⟨s1, s2⟩ := hw
      clear hS k1 k2
      go_simp
    refine wpAnyH_take (i := 6) (v := .int .i64 (L : Int)) rfl (by kernel_rfl) (by kernel_rfl) (by kernel_rfl) (fun _ _ _ h => h) (Or.inl ⟨by rfl, fun w' hw => ?y6⟩) hS ?_
    case y6 =>
      obtain ⟨s1, s2⟩ := hw
      clear hS k1 k2
      go_simp
    refine wpAnyH_ready (rs := [4]) (by kernel_rfl) (by simp) (AllReadyH.cons rfl (fun K hK => ?_) AllReadyH.nil)
    have z3d : W6.drew.cell? ⟨b, 3, none⟩ = some (.slice aa L ca) := z3
    go_simp
    refine hK.out _ _ hS (fun hS => ?_)
    clear hK K
    refine wpAnyH_take (i := 7) (v := .slice aa L (if aa.isSome then L else 0)) rfl (by kernel_rfl) (by kernel_rfl) (by kernel_rfl) (fun _ _ _ h => h) (Or.inl ⟨by rfl, fun w' hw => ?y7⟩) hS ?_
    case y7 =>
      clear hS k1 k2
      cases aa with
      | none =>
        obtain ⟨rfl, rfl⟩ := hz rfl
        go_simp
      | some ad =>
        go_simp
    refine wpAnyH_take (i := 8) (v := .pointer (some ⟨b, 0, none⟩)) rfl (by kernel_rfl) (by kernel_rfl) (by kernel_rfl) (fun _ _ _ h => h) (Or.inl ⟨by rfl, fun w' hw => ?y8⟩) hS ?_
    case y8 =>
      obtain ⟨s1, s2⟩ := hw
      clear hS k1 k2
      go_simp
    refine wpAnyH_take (i := 9) (v := .pointer (some ⟨b, 3, none⟩)) rfl (by kernel_rfl) (by kernel_rfl) (by kernel_rfl) (fun _ _ _ h => h) (Or.inl ⟨by rfl, fun w' hw => ?y9⟩) hS ?_
    case y9 =>
      obtain ⟨s1, s2⟩ := hw
      clear hS k1 k2
      go_simp
    refine wpAnyH_ready (rs := [10]) (by kernel_rfl) (by simp) (AllReadyH.cons rfl (fun K hK => ?_) AllReadyH.nil)
    have f3d : W6.drew.frozen? ⟨b, 3, none⟩ = false := f3
    generalize (if aa.isSome then L else 0) = cp at *
    go_simp
    refine hK.out _ _ ⟨(World.cell?_setCell_far W6 ⟨b, 3, none⟩ _ (.slice aa L cp) ne1').trans k1, (World.cell?_setCell_far W6 ⟨b, 3, none⟩ _ (.slice aa L cp) ne2').trans k2⟩ (fun _ => wpAnyH_done (by kernel_rfl) (NoPanic.normal ?_) _)
    clear hK K
    have fin : Mem (W6.setCell ⟨b, 3, none⟩ (.slice aa L cp)).drew (fun k => S k ∧ k < W.heap.size) b vw (Value.slice (some ⟨g, 0, none⟩) lg.length lg.length) (.slice aa L cp) ws mv lg ah := by
      refine Mem.below (W := W6.setCell ⟨b, 3, none⟩ (.slice aa L cp)) ⟨by rw [setBlk zs.blk]; rfl, zs.inb, zs.hw.setCell _ _ zs.bw, zs.hl.setCell _ _ zs.bl, ?_, ?_, zs.len⟩ (Below.refl _ _).drew
      · rw [hL]
        refine cut.setCell _ _ ?_
        intro e
        have := zs.ba
        cases aa with
        | none => simp [Value.ownBlock] at e
        | some ad => exact this (by simpa [Value.ownBlock] using e)
      · intro k hk e
        have := zs.ne k hk
        cases aa with
        | none => simp [Value.ownBlock] at e
        | some ad => exact this (by simpa [Value.ownBlock] using e)
    have hF6 : Fr W (W6.setCell ⟨b, 3, none⟩ (.slice aa L cp)).drew S := (hF.setCell ⟨b, 3, none⟩ _ (.inl zs.inb.1)).drew
    have hK6 : (W6.setCell ⟨b, 3, none⟩ (.slice aa L cp)).drew.heap[D]? = some (.deferred (some [])) := (Below.heap_setCell W6 ⟨b, 3, none⟩ _ D (fun e => by have e' : D = b := e; omega)).trans hK'
    gi_wp2
    refine ⟨by simp, .inl ⟨_, _, rfl, run_takeDeferred (w := (W6.setCell ⟨b, 3, none⟩ (.slice aa L cp)).drew) hK6, ?_⟩⟩
    refine ⟨.int .i64 0, by simp [results, Try.f14, go_sem], rfl, ⟨Value.slice (some ⟨g, 0, none⟩) lg.length lg.length, .slice aa L cp, ?_⟩, ?_⟩
    · refine Mem.mono (S := fun k => S k ∧ k < W.heap.size) ?_ (fun k hk => hk.1)
      exact fin.kept (fun k hk _ => World.putObj_heap_other (by have := hk.2; omega))
    · exact Fr.put hF6 _ (by omega)
end Go.Proofs.Ytilbkminekojcaa.Me
