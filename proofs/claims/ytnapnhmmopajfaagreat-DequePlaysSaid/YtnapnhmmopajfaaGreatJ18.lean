import Derived.Shelf.Abstract
import Derived.Test.YtnapnhmmopajfaaGreatJ15
import Derived.Test.YtnapnhmmopajfaaGreatJ16
import Derived.Test.YtnapnhmmopajfaaGreatJ17
import Derived.Laws.EntriesVeiled
/-
  THE DEQUE's TASKS: how they lie behind a step; work by its contract.
-/
namespace Go.Proofs.YtnapnhmmopajfaaGreat.Dm
open Go.RowKit Mr Me Ma Gm
set_option linter.unusedVariables false
set_option linter.unusedSimpArgs false
set_option maxRecDepth 100000
/-- How they lie, with the blocks named. -/
structure AtB (r bc bl : Nat) (bt : Nat → Nat) (tk : Nat → Option Dt) (g : Lw) (tv : Nat → Value) (X : Nat → Obj → Prop) : Prop where
  com : X bc (comO r (lwp bl g))
  low : ∀ m k, g = some (m, k) → X bl (lowO m k) ∧ bl ≠ bc
  idle : ∀ i, tk i = none → tv i = .nilIface
  busy : ∀ i t, tk i = some t → tv i = .iface (ty t) (.pointer (some ⟨bt i, 0, none⟩)) ∧ X (bt i) (obj bc (bt i) t) ∧ bt i ≠ bc ∧ (g.isSome = true → bt i ≠ bl)
  dj : ∀ i j t u, tk i = some t → tk j = some u → bt i = bt j → i = j
theorem AtB.at_ {r bc bl : Nat} {bt : Nat → Nat} {tk : Nat → Option Dt} {g : Lw} {tv : Nat → Value} {X : Nat → Obj → Prop} (h : AtB r bc bl bt tk g tv X) : At r bc tk g tv X := ⟨bl, bt, h.com, h.low, h.idle, h.busy, h.dj⟩
section
variable {r bc bl : Nat} {bt : Nat → Nat} {tk : Nat → Option Dt} {g : Lw} {tv : Nat → Value} {X : Nat → Obj → Prop}
/-- A task goes on. -/
theorem AtB.go (h : AtB r bc bl bt tk g tv X) {i : Nat} {k k' : Dt} (hk : tk i = some k) (hty : ty k' = ty k) : AtB r bc bl bt (upd tk i (some k')) g (upd tv i (tv i)) (Xp X (bt i) (obj bc (bt i) k')) := by
  obtain ⟨b1, b2, b3, b4⟩ := h.busy i k hk
  refine ⟨.inr ⟨b3.symm, h.com⟩, fun m q e => ⟨.inr ⟨(b4 (by rw [e]; rfl)).symm, (h.low m q e).1⟩, (h.low m q e).2⟩, fun j hj => ?_, fun j t hj => ?_, fun a b t u ha hb e => ?_⟩
  · by_cases hji : j = i
    · subst hji; rw [upd_same] at hj; cases hj
    · rw [upd_other _ _ _ _ hji] at hj; rw [upd_other _ _ _ _ hji]; exact h.idle j hj
  · by_cases hji : j = i
    · subst hji
      rw [upd_same] at hj; cases hj
      rw [upd_same, hty]
      exact ⟨b1, .inl ⟨rfl, rfl⟩, b3, b4⟩
    · rw [upd_other _ _ _ _ hji] at hj
      rw [upd_other _ _ _ _ hji]
      obtain ⟨c1, c2, c3, c4⟩ := h.busy j t hj
      exact ⟨c1, .inr ⟨fun e => hji (h.dj j i t k hj hk e), c2⟩, c3, c4⟩
  · have key : ∀ a t, upd tk i (some k') a = some t → ∃ t', tk a = some t' := fun a t ha => by
      by_cases hai : a = i
      · subst hai; exact ⟨k, hk⟩
      · rw [upd_other _ _ _ _ hai] at ha; exact ⟨t, ha⟩
    obtain ⟨t', ha'⟩ := key a t ha
    obtain ⟨u', hb'⟩ := key b u hb
    exact h.dj a b t' u' ha' hb' e
/-- A task ends. -/
theorem AtB.fin (h : AtB r bc bl bt tk g tv X) {i : Nat} {k : Dt} (hk : tk i = some k) (o : Obj) : AtB r bc bl bt (upd tk i none) g (upd tv i .nilIface) (Xp X (bt i) o) := by
  obtain ⟨b1, b2, b3, b4⟩ := h.busy i k hk
  refine ⟨.inr ⟨b3.symm, h.com⟩, fun m q e => ⟨.inr ⟨(b4 (by rw [e]; rfl)).symm, (h.low m q e).1⟩, (h.low m q e).2⟩, fun j hj => ?_, fun j t hj => ?_, fun a b t u ha hb e => ?_⟩
  · by_cases hji : j = i
    · subst hji; rw [upd_same]
    · rw [upd_other _ _ _ _ hji] at hj; rw [upd_other _ _ _ _ hji]; exact h.idle j hj
  · by_cases hji : j = i
    · subst hji; rw [upd_same] at hj; cases hj
    · rw [upd_other _ _ _ _ hji] at hj
      rw [upd_other _ _ _ _ hji]
      obtain ⟨c1, c2, c3, c4⟩ := h.busy j t hj
      exact ⟨c1, .inr ⟨fun e => hji (h.dj j i t k hj hk e), c2⟩, c3, c4⟩
  · have hai : a ≠ i := fun e' => by subst e'; rw [upd_same] at ha; cases ha
    have hbi : b ≠ i := fun e' => by subst e'; rw [upd_same] at hb; cases hb
    rw [upd_other _ _ _ _ hai] at ha
    rw [upd_other _ _ _ _ hbi] at hb
    exact h.dj a b t u ha hb e
/-- What a take put down is no longer told. -/
theorem AtB.wipe (h : AtB r bc bl bt tk g tv X) : AtB r bc bl bt tk none tv (Xp X bc (comO r none)) :=
  ⟨.inl ⟨rfl, rfl⟩, fun m q e => (by cases e), h.idle, fun j t hj => by
    obtain ⟨c1, c2, c3, c4⟩ := h.busy j t hj
    exact ⟨c1, .inr ⟨c3, c2⟩, c3, fun e => by cases e⟩, h.dj⟩
/-- A take has put bottom down. -/
theorem AtB.lower (h : AtB r bc bl bt tk g tv X) {bl' : Nat} (h1 : bl' ≠ bc) (h2 : ∀ k o, X k o → k ≠ bl') (m q : Int) : AtB r bc bl' bt tk (some (m, q)) tv (Xp (fun k o => X k o ∨ (k = bl' ∧ o = lowO m q)) bc (comO r (some ⟨bl', 0, none⟩))) :=
  ⟨.inl ⟨rfl, rfl⟩, fun m' q' e => (by cases e; exact ⟨.inr ⟨h1, .inr ⟨rfl, rfl⟩⟩, h1⟩), h.idle, fun j t hj => by
    obtain ⟨c1, c2, c3, c4⟩ := h.busy j t hj
    exact ⟨c1, .inr ⟨c3, .inl c2⟩, c3, fun _ => h2 _ _ c2⟩, h.dj⟩
end
/-! Work. -/
theorem meS (t : Dt) (b n : Nat) (w : World) : (method (n + 1) (ty t) (.pointer (some ⟨b, 0, none⟩)) "Step").run Tryz.prog w = .ok (122, .pointer (some ⟨b, 0, none⟩)) w := by
  cases t <;> kernel_rfl
theorem meR (t : Dt) (b n : Nat) (w : World) : (method (n + 1) (ty t) (.pointer (some ⟨b, 0, none⟩)) "Ready").run Tryz.prog w = .ok (121, .pointer (some ⟨b, 0, none⟩)) w := by
  cases t <;> kernel_rfl
theorem work_d (t : Dt) (b f : Nat) (fr : Bool) {W : World} {a : Value} {rr : Bool} {Q : World → Prop} (h0 : W.cell? ⟨b, 0, none⟩ = some .nilFunc) (hc : W.cell? ⟨b, 1, none⟩ = some (fnv f b))
    (C : Calls Tryz.prog 122 #[.pointer (some ⟨b, 0, none⟩), a] W fun e w' => e = .returned (.bool rr) ∧ Q w') :
    Calls Tryz.prog 36 #[.iface (ty t) (.pointer (some ⟨b, 0, none⟩)), .bool fr, a] W fun e w' => e = .returned (.bool rr) ∧ Q w' := by
  cases fr with
  | false => exact work_step (meS t b) (enters_of Tryz.func122 (by kernel_rfl) rfl) C
  | true =>
    refine work_no (Q1 := fun w1 => w1 = W) (meR t b) (enters_of Tryz.func121 (by kernel_rfl) rfl) (meS t b) (enters_of Tryz.func122 (by kernel_rfl) rfl) (course_ready h0 hc) (fun w1 e => ?_)
    subst e
    exact C
theorem ss_ext {a b : Ss} (h1 : a.ths = b.ths) (h2 : a.n = b.n) (h3 : a.cls = b.cls) (h4 : a.shs = b.shs) (h5 : a.ws = b.ws) (h6 : a.mv = b.mv) (h7 : a.lg = b.lg) (h8 : a.ah = b.ah) : a = b := by
  cases a; cases b; simp only at *; subst h1 h2 h3 h4 h5 h6 h7 h8; rfl
theorem set_self {α : Type} {l : List α} {i : Nat} {x : α} (h : l[i]? = some x) : l.set i x = l := by
  apply List.ext_getElem?
  intro j
  rw [List.getElem?_set]
  split
  · rename_i e; subst e
    rw [if_pos (List.getElem?_eq_some_iff.1 h).1, h]
  · rfl
theorem setP_some {cls : List Cl} {c : Nat} {cl : Cl} (h : cls[c]? = some cl) (m : Int) : cls.set c { cl with pt := m } = setP cls c (some m) := by unfold setP; rw [h]
theorem setP_none (cls : List Cl) (c : Nat) : setP cls c none = cls := rfl
end Go.Proofs.YtnapnhmmopajfaaGreat.Dm
/-
  THE DEQUE's TASKS made: push, take, steal; the makers of the kit.
-/
namespace Go.Proofs.YtnapnhmmopajfaaGreat.Dm
open Go.RowKit Mr Me Ma Gm
set_option linter.unusedVariables false
set_option linter.unusedSimpArgs false
set_option maxRecDepth 100000
def Made (W : World) (bc : Nat) (k : Dt) (e : Ending) (w' : World) : Prop := e = .returned (.pointer (some ⟨W.heap.size, 0, none⟩)) ∧ Below W.heap.size W w' ∧ w'.heap[W.heap.size]? = some (obj bc W.heap.size k)
/-- As an interface value, with the number of allocations before it. -/
def MadeI (W : World) (d bc : Nat) (k : Dt) (e : Ending) (w' : World) : Prop := e = .returned (.iface (ty k) (.pointer (some ⟨W.heap.size + d, 0, none⟩))) ∧ Below W.heap.size W w' ∧ w'.heap[W.heap.size + d]? = some (obj bc (W.heap.size + d) k)
theorem made_of (W : World) {bc : Nat} {k : Dt} {e : Ending} (he : e = .returned (.pointer (some ⟨W.heap.size, 0, none⟩))) : Made W bc k e (W.alloc (obj bc W.heap.size k)) :=
  ⟨he, (Below.refl _ _).alloc (Nat.le_refl _) _, heap_alloc_new W _⟩
theorem madeI_of {W : World} {o : Obj} {d d' bc : Nat} {k : Dt} {w' : World} {e : Ending} (hd : d' = d + 1) (he : e = .returned (.iface (ty k) (.pointer (some ⟨W.heap.size + d', 0, none⟩)))) (h1 : Below (W.alloc o).heap.size (W.alloc o) w') (h2 : w'.heap[(W.alloc o).heap.size + d]? = some (obj bc ((W.alloc o).heap.size + d) k)) : MadeI W d' bc k e w' := by
  subst he hd
  rw [World.size_alloc] at h1 h2
  have e : W.heap.size + 1 + d = W.heap.size + (d + 1) := by omega
  rw [e] at h2
  exact ⟨rfl, ((Below.refl _ _).alloc (Nat.le_refl _) o).trans (h1.mono (by omega)), h2⟩
theorem push_new (W : World) (bc : Nat) (v : Int) : Calls Tryz.prog 31 #[.pointer (some ⟨bc, 0, none⟩), .int .i64 v] W (Made W bc (.push 1 v 0)) := by
  have fin := Mr.hid (fun k e => @made_of W bc k e)
  go_enter Tryz.func31, Tryz.ntmps31
  go_wp2
  go_ret
  exact fin.out _ _ (by simp)
theorem take_new (W : World) (bc : Nat) : Calls Tryz.prog 33 #[.pointer (some ⟨bc, 0, none⟩)] W (Made W bc (.take 1 0 0 0)) := by
  have fin := Mr.hid (fun k e => @made_of W bc k e)
  go_enter Tryz.func33, Tryz.ntmps33
  go_wp2
  go_ret
  exact fin.out _ _ (by simp)
theorem steal_new (W : World) (bc : Nat) : Calls Tryz.prog 35 #[.pointer (some ⟨bc, 0, none⟩)] W (Made W bc (.steal 1 0 0)) := by
  have fin := Mr.hid (fun k e => @made_of W bc k e)
  go_enter Tryz.func35, Tryz.ntmps35
  go_wp2
  go_ret
  exact fin.out _ _ (by simp)
section
variable {W : World} {cs bc : Nat}
set_option maxHeartbeats 1000000
theorem kit1_any (hc : W.cell? ⟨cs, 0, none⟩ = some (.pointer (some ⟨bc, 0, none⟩))) (th op arg data : Int) :
    Calls Tryz.prog 30 #[.agg #[.int .i64 th, .int .i64 op, .int .i64 arg, .int .i64 data], .pointer (some ⟨cs, 0, none⟩)] W (MadeI W 1 bc (.push 1 arg 0)) := by
  have c1 : ∀ o, (W.alloc o).cell? ⟨cs, 0, none⟩ = some (.pointer (some ⟨bc, 0, none⟩)) := fun o => by rw [World.cell?_alloc_past _ _ _ (World.block_lt_of_cell? W ⟨cs, 0, none⟩ hc)]; exact hc
  have C := Mr.hid (fun o => push_new (W.alloc o) bc arg)
  have fin := Mr.hid (fun o w' e => @madeI_of W o 0 1 bc (.push 1 arg 0) w' e rfl)
  go_enter Tryz.func30, Tryz.ntmps30
  go_wp2_with (go_at_call 31; refine (C.out _).mono ?_; clear C; rintro e w' ⟨rfl, hB, hw⟩; replace hB := Mr.hid hB; replace hw := Mr.hid hw)
  go_ret
  exact fin.out _ _ _ (by simp [ty]) hB.out hw.out
theorem kit2_any (hc : W.cell? ⟨cs, 0, none⟩ = some (.pointer (some ⟨bc, 0, none⟩))) (th op arg data : Int) :
    Calls Tryz.prog 32 #[.agg #[.int .i64 th, .int .i64 op, .int .i64 arg, .int .i64 data], .pointer (some ⟨cs, 0, none⟩)] W (MadeI W 1 bc (.take 1 0 0 0)) := by
  have c1 : ∀ o, (W.alloc o).cell? ⟨cs, 0, none⟩ = some (.pointer (some ⟨bc, 0, none⟩)) := fun o => by rw [World.cell?_alloc_past _ _ _ (World.block_lt_of_cell? W ⟨cs, 0, none⟩ hc)]; exact hc
  have C := Mr.hid (fun o => take_new (W.alloc o) bc)
  have fin := Mr.hid (fun o w' e => @madeI_of W o 0 1 bc (.take 1 0 0 0) w' e rfl)
  go_enter Tryz.func32, Tryz.ntmps32
  go_wp2_with (go_at_call 33; refine (C.out _).mono ?_; clear C; rintro e w' ⟨rfl, hB, hw⟩; replace hB := Mr.hid hB; replace hw := Mr.hid hw)
  go_ret
  exact fin.out _ _ _ (by simp [ty]) hB.out hw.out
theorem kit3_any (hc : W.cell? ⟨cs, 0, none⟩ = some (.pointer (some ⟨bc, 0, none⟩))) (i th op arg data : Int) :
    Calls Tryz.prog 34 #[.int .i64 i, .agg #[.int .i64 th, .int .i64 op, .int .i64 arg, .int .i64 data], .pointer (some ⟨cs, 0, none⟩)] W (MadeI W 1 bc (.steal 1 0 0)) := by
  have c1 : ∀ o, (W.alloc o).cell? ⟨cs, 0, none⟩ = some (.pointer (some ⟨bc, 0, none⟩)) := fun o => by rw [World.cell?_alloc_past _ _ _ (World.block_lt_of_cell? W ⟨cs, 0, none⟩ hc)]; exact hc
  have C := Mr.hid (fun o => steal_new (W.alloc o) bc)
  have fin := Mr.hid (fun o w' e => @madeI_of W o 0 1 bc (.steal 1 0 0) w' e rfl)
  go_enter Tryz.func34, Tryz.ntmps34
  go_wp2_with (go_at_call 35; refine (C.out _).mono ?_; clear C; rintro e w' ⟨rfl, hB, hw⟩; replace hB := Mr.hid hB; replace hw := Mr.hid hw)
  go_ret
  exact fin.out _ _ _ (by simp [ty]) hB.out hw.out
theorem own_no {ca : Nat} (i : Nat) (hi : i ≠ 0) (th op arg data : Int) :
    Calls Tryz.prog 47 #[.int .i64 (i : Int), .agg #[.int .i64 th, .int .i64 op, .int .i64 arg, .int .i64 data], .pointer (some ⟨ca, 0, none⟩)] W fun e w' => e = .returned .nilIface ∧ Below W.heap.size W w' := by
  have n0 : ¬ ((i : Int) = 0) := by omega
  have bb : Hid (∀ (o : Obj), Below W.heap.size W (W.alloc o)) := Mr.hid (fun o => (Below.refl _ _).alloc (Nat.le_refl _) o)
  go_enter Tryz.func47, Tryz.ntmps47
  go_wp2
  go_ret
  exact ⟨rfl, bb.out _⟩
theorem own_push {ca : Nat} (hf : W.cell? ⟨ca, 0, none⟩ = some (.func (.func 30) #[] #[.pointer (some ⟨cs, 0, none⟩)])) (hc : W.cell? ⟨cs, 0, none⟩ = some (.pointer (some ⟨bc, 0, none⟩))) (th op arg data : Int) :
    Calls Tryz.prog 47 #[.int .i64 0, .agg #[.int .i64 th, .int .i64 op, .int .i64 arg, .int .i64 data], .pointer (some ⟨ca, 0, none⟩)] W (MadeI W 2 bc (.push 1 arg 0)) := by
  have c1 : ∀ o, (W.alloc o).cell? ⟨ca, 0, none⟩ = some (.func (.func 30) #[] #[.pointer (some ⟨cs, 0, none⟩)]) := fun o => by rw [World.cell?_alloc_past _ _ _ (World.block_lt_of_cell? W ⟨ca, 0, none⟩ hf)]; exact hf
  have c2 : ∀ o, (W.alloc o).cell? ⟨cs, 0, none⟩ = some (.pointer (some ⟨bc, 0, none⟩)) := fun o => by rw [World.cell?_alloc_past _ _ _ (World.block_lt_of_cell? W ⟨cs, 0, none⟩ hc)]; exact hc
  have C := Mr.hid (fun o => kit1_any (c2 o) th op arg data)
  have fin := Mr.hid (fun o w' e => @madeI_of W o 1 2 bc (.push 1 arg 0) w' e rfl)
  clear c2
  go_enter Tryz.func47, Tryz.ntmps47
  go_wp2_with (go_at_call 30; refine (C.out _).mono ?_; clear C; rintro e w' ⟨rfl, hB, hw⟩; replace hB := Mr.hid hB; replace hw := Mr.hid hw)
  go_ret
  exact fin.out _ _ _ (by simp [ty]) hB.out hw.out
theorem own_take {ca : Nat} (hf : W.cell? ⟨ca, 0, none⟩ = some (.func (.func 32) #[] #[.pointer (some ⟨cs, 0, none⟩)])) (hc : W.cell? ⟨cs, 0, none⟩ = some (.pointer (some ⟨bc, 0, none⟩))) (th op arg data : Int) :
    Calls Tryz.prog 47 #[.int .i64 0, .agg #[.int .i64 th, .int .i64 op, .int .i64 arg, .int .i64 data], .pointer (some ⟨ca, 0, none⟩)] W (MadeI W 2 bc (.take 1 0 0 0)) := by
  have c1 : ∀ o, (W.alloc o).cell? ⟨ca, 0, none⟩ = some (.func (.func 32) #[] #[.pointer (some ⟨cs, 0, none⟩)]) := fun o => by rw [World.cell?_alloc_past _ _ _ (World.block_lt_of_cell? W ⟨ca, 0, none⟩ hf)]; exact hf
  have c2 : ∀ o, (W.alloc o).cell? ⟨cs, 0, none⟩ = some (.pointer (some ⟨bc, 0, none⟩)) := fun o => by rw [World.cell?_alloc_past _ _ _ (World.block_lt_of_cell? W ⟨cs, 0, none⟩ hc)]; exact hc
  have C := Mr.hid (fun o => kit2_any (c2 o) th op arg data)
  have fin := Mr.hid (fun o w' e => @madeI_of W o 1 2 bc (.take 1 0 0 0) w' e rfl)
  clear c2
  go_enter Tryz.func47, Tryz.ntmps47
  go_wp2_with (go_at_call 32; refine (C.out _).mono ?_; clear C; rintro e w' ⟨rfl, hB, hw⟩; replace hB := Mr.hid hB; replace hw := Mr.hid hw)
  go_ret
  exact fin.out _ _ _ (by simp [ty]) hB.out hw.out
end
end Go.Proofs.YtnapnhmmopajfaaGreat.Dm
