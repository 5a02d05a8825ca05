/-
  THE DEQUE's TASKS made: push, take, steal; the makers of the kit.
-/
import Derived.Test.YtpckcfdjgpdooaaDmAt
import Derived.Laws.EntriesVeiled
namespace Go.Proofs.Ytpckcfdjgpdooaa.Dm
open Go.RowKit Mr Me Ma Gm
set_option linter.unusedVariables false
set_option linter.unusedSimpArgs false
set_option maxRecDepth 100000
def Made (W : World) (bc : Nat) (k : Dt) (e : Ending) (w' : World) : Prop := e = .returned (.pointer (some ⟨W.heap.size, 0, none⟩)) ∧ Below W.heap.size W w' ∧ w'.heap[W.heap.size]? = some (obj bc W.heap.size k)
/-- As an interface value, with the number of allocations before it. -/
def MadeI (W : World) (d bc : Nat) (k : Dt) (e : Ending) (w' : World) : Prop := e = .returned (.iface (ty k) (.pointer (some ⟨W.heap.size + d, 0, none⟩))) ∧ Below W.heap.size W w' ∧ w'.heap[W.heap.size + d]? = some (obj bc (W.heap.size + d) k)
theorem made_of (W : World) {bc : Nat} {k : Dt} {e : Ending} (he : e = .returned (.pointer (some ⟨W.heap.size, 0, none⟩))) : Made W bc k e (W.alloc (obj bc W.heap.size k)) :=
  ⟨he, (Below.refl _ _).alloc (Nat.le_refl _) _, heap_alloc_new W _⟩
theorem madeI_of {W : World} {o : Obj} {d d' bc : Nat} {k : Dt} {w' : World} {e : Ending} (hd : d' = d + 1) (he : e = .returned (.iface (ty k) (.pointer (some ⟨W.heap.size + d', 0, none⟩)))) (h1 : Below (W.alloc o).heap.size (W.alloc o) w') (h2 : w'.heap[(W.alloc o).heap.size + d]? = some (obj bc ((W.alloc o).heap.size + d) k)) : MadeI W d' bc k e w' := by
  subst he hd
  rw [World.size_alloc] at h1 h2
  have e : W.heap.size + 1 + d = W.heap.size + (d + 1) := by omega
  rw [e] at h2
  exact ⟨rfl, ((Below.refl _ _).alloc (Nat.le_refl _) o).trans (h1.mono (by omega)), h2⟩
theorem push_new (W : World) (bc : Nat) (v : Int) : Calls Try.prog 35 #[.pointer (some ⟨bc, 0, none⟩), .int .i64 v] W (Made W bc (.push 1 v 0)) := by
  have fin := Mr.hid (fun k e => @made_of W bc k e)
  go_enter Try.func35, Try.ntmps35
  go_wp2
  go_ret
  exact fin.out _ _ (by simp)
theorem take_new (W : World) (bc : Nat) : Calls Try.prog 37 #[.pointer (some ⟨bc, 0, none⟩)] W (Made W bc (.take 1 0 0 0)) := by
  have fin := Mr.hid (fun k e => @made_of W bc k e)
  go_enter Try.func37, Try.ntmps37
  go_wp2
  go_ret
  exact fin.out _ _ (by simp)
theorem steal_new (W : World) (bc : Nat) : Calls Try.prog 39 #[.pointer (some ⟨bc, 0, none⟩)] W (Made W bc (.steal 1 0 0)) := by
  have fin := Mr.hid (fun k e => @made_of W bc k e)
  go_enter Try.func39, Try.ntmps39
  go_wp2
  go_ret
  exact fin.out _ _ (by simp)
section
variable {W : World} {cs bc : Nat}
set_option maxHeartbeats 1000000
theorem kit1_any (hc : W.cell? ⟨cs, 0, none⟩ = some (.pointer (some ⟨bc, 0, none⟩))) (th op arg data : Int) :
    Calls Try.prog 34 #[.agg #[.int .i64 th, .int .i64 op, .int .i64 arg, .int .i64 data], .pointer (some ⟨cs, 0, none⟩)] W (MadeI W 1 bc (.push 1 arg 0)) := by
  have c1 : ∀ o, (W.alloc o).cell? ⟨cs, 0, none⟩ = some (.pointer (some ⟨bc, 0, none⟩)) := fun o => by rw [World.cell?_alloc_past _ _ _ (World.block_lt_of_cell? W ⟨cs, 0, none⟩ hc)]; exact hc
  have C := Mr.hid (fun o => push_new (W.alloc o) bc arg)
  have fin := Mr.hid (fun o w' e => @madeI_of W o 0 1 bc (.push 1 arg 0) w' e rfl)
  go_enter Try.func34, Try.ntmps34
  go_wp2_with (go_at_call 35; refine (C.out _).mono ?_; clear C; rintro e w' ⟨rfl, hB, hw⟩; replace hB := Mr.hid hB; replace hw := Mr.hid hw)
  go_ret
  exact fin.out _ _ _ (by simp [ty]) hB.out hw.out
theorem kit2_any (hc : W.cell? ⟨cs, 0, none⟩ = some (.pointer (some ⟨bc, 0, none⟩))) (th op arg data : Int) :
    Calls Try.prog 36 #[.agg #[.int .i64 th, .int .i64 op, .int .i64 arg, .int .i64 data], .pointer (some ⟨cs, 0, none⟩)] W (MadeI W 1 bc (.take 1 0 0 0)) := by
  have c1 : ∀ o, (W.alloc o).cell? ⟨cs, 0, none⟩ = some (.pointer (some ⟨bc, 0, none⟩)) := fun o => by rw [World.cell?_alloc_past _ _ _ (World.block_lt_of_cell? W ⟨cs, 0, none⟩ hc)]; exact hc
  have C := Mr.hid (fun o => take_new (W.alloc o) bc)
  have fin := Mr.hid (fun o w' e => @madeI_of W o 0 1 bc (.take 1 0 0 0) w' e rfl)
  go_enter Try.func36, Try.ntmps36
  go_wp2_with (go_at_call 37; refine (C.out _).mono ?_; clear C; rintro e w' ⟨rfl, hB, hw⟩; replace hB := Mr.hid hB; replace hw := Mr.hid hw)
  go_ret
  exact fin.out _ _ _ (by simp [ty]) hB.out hw.out
theorem kit3_any (hc : W.cell? ⟨cs, 0, none⟩ = some (.pointer (some ⟨bc, 0, none⟩))) (i th op arg data : Int) :
    Calls Try.prog 38 #[.int .i64 i, .agg #[.int .i64 th, .int .i64 op, .int .i64 arg, .int .i64 data], .pointer (some ⟨cs, 0, none⟩)] W (MadeI W 1 bc (.steal 1 0 0)) := by
  have c1 : ∀ o, (W.alloc o).cell? ⟨cs, 0, none⟩ = some (.pointer (some ⟨bc, 0, none⟩)) := fun o => by rw [World.cell?_alloc_past _ _ _ (World.block_lt_of_cell? W ⟨cs, 0, none⟩ hc)]; exact hc
  have C := Mr.hid (fun o => steal_new (W.alloc o) bc)
  have fin := Mr.hid (fun o w' e => @madeI_of W o 0 1 bc (.steal 1 0 0) w' e rfl)
  go_enter Try.func38, Try.ntmps38
  go_wp2_with (go_at_call 39; refine (C.out _).mono ?_; clear C; rintro e w' ⟨rfl, hB, hw⟩; replace hB := Mr.hid hB; replace hw := Mr.hid hw)
  go_ret
  exact fin.out _ _ _ (by simp [ty]) hB.out hw.out
theorem own_no {ca : Nat} (i : Nat) (hi : i ≠ 0) (th op arg data : Int) :
    Calls Try.prog 50 #[.int .i64 (i : Int), .agg #[.int .i64 th, .int .i64 op, .int .i64 arg, .int .i64 data], .pointer (some ⟨ca, 0, none⟩)] W fun e w' => e = .returned .nilIface ∧ Below W.heap.size W w' := by
  have n0 : ¬ ((i : Int) = 0) := by omega
  have bb : Hid (∀ (o : Obj), Below W.heap.size W (W.alloc o)) := Mr.hid (fun o => (Below.refl _ _).alloc (Nat.le_refl _) o)
  go_enter Try.func50, Try.ntmps50
  go_wp2
  go_ret
  exact ⟨rfl, bb.out _⟩
theorem own_push {ca : Nat} (hf : W.cell? ⟨ca, 0, none⟩ = some (.func (.func 34) #[] #[.pointer (some ⟨cs, 0, none⟩)])) (hc : W.cell? ⟨cs, 0, none⟩ = some (.pointer (some ⟨bc, 0, none⟩))) (th op arg data : Int) :
    Calls Try.prog 50 #[.int .i64 0, .agg #[.int .i64 th, .int .i64 op, .int .i64 arg, .int .i64 data], .pointer (some ⟨ca, 0, none⟩)] W (MadeI W 2 bc (.push 1 arg 0)) := by
  have c1 : ∀ o, (W.alloc o).cell? ⟨ca, 0, none⟩ = some (.func (.func 34) #[] #[.pointer (some ⟨cs, 0, none⟩)]) := fun o => by rw [World.cell?_alloc_past _ _ _ (World.block_lt_of_cell? W ⟨ca, 0, none⟩ hf)]; exact hf
  have c2 : ∀ o, (W.alloc o).cell? ⟨cs, 0, none⟩ = some (.pointer (some ⟨bc, 0, none⟩)) := fun o => by rw [World.cell?_alloc_past _ _ _ (World.block_lt_of_cell? W ⟨cs, 0, none⟩ hc)]; exact hc
  have C := Mr.hid (fun o => kit1_any (c2 o) th op arg data)
  have fin := Mr.hid (fun o w' e => @madeI_of W o 1 2 bc (.push 1 arg 0) w' e rfl)
  clear c2
  go_enter Try.func50, Try.ntmps50
  go_wp2_with (go_at_call 34; refine (C.out _).mono ?_; clear C; rintro e w' ⟨rfl, hB, hw⟩; replace hB := Mr.hid hB; replace hw := Mr.hid hw)
  go_ret
  exact fin.out _ _ _ (by simp [ty]) hB.out hw.out
theorem own_take {ca : Nat} (hf : W.cell? ⟨ca, 0, none⟩ = some (.func (.func 36) #[] #[.pointer (some ⟨cs, 0, none⟩)])) (hc : W.cell? ⟨cs, 0, none⟩ = some (.pointer (some ⟨bc, 0, none⟩))) (th op arg data : Int) :
    Calls Try.prog 50 #[.int .i64 0, .agg #[.int .i64 th, .int .i64 op, .int .i64 arg, .int .i64 data], .pointer (some ⟨ca, 0, none⟩)] W (MadeI W 2 bc (.take 1 0 0 0)) := by
  have c1 : ∀ o, (W.alloc o).cell? ⟨ca, 0, none⟩ = some (.func (.func 36) #[] #[.pointer (some ⟨cs, 0, none⟩)]) := fun o => by rw [World.cell?_alloc_past _ _ _ (World.block_lt_of_cell? W ⟨ca, 0, none⟩ hf)]; exact hf
  have c2 : ∀ o, (W.alloc o).cell? ⟨cs, 0, none⟩ = some (.pointer (some ⟨bc, 0, none⟩)) := fun o => by rw [World.cell?_alloc_past _ _ _ (World.block_lt_of_cell? W ⟨cs, 0, none⟩ hc)]; exact hc
  have C := Mr.hid (fun o => kit2_any (c2 o) th op arg data)
  have fin := Mr.hid (fun o w' e => @madeI_of W o 1 2 bc (.take 1 0 0 0) w' e rfl)
  clear c2
  go_enter Try.func50, Try.ntmps50
  go_wp2_with (go_at_call 36; refine (C.out _).mono ?_; clear C; rintro e w' ⟨rfl, hB, hw⟩; replace hB := Mr.hid hB; replace hw := Mr.hid hw)
  go_ret
  exact fin.out _ _ _ (by simp [ty]) hB.out hw.out
end
end Go.Proofs.Ytpckcfdjgpdooaa.Dm
