import Derived.Test.YtmejblmeaipahaaDoorJ17
import Derived.Laws.Tables
import Derived.Laws.Rows
/-
  TSO, pure: runs.
-/
namespace Go.Proofs.YtmejblmeaipahaaDoor.Ts
open Go.RowKit Mr
set_option linter.unusedVariables false
set_option linter.unusedSimpArgs false
set_option maxRecDepth 100000
theorem stp_more {o : Int} {i : In} {x y : Th} {n nw : Nat} (hf : fitB (nw : Int) i = true) (ht : Tp o n nw x) (hb : (x.b.length : Int) ≤ x.pc) (hp : x.pc + 1 ≤ (n : Int)) (hn : n ≤ 10) (h : stp o i x = some y) :
    y.ws.length = nw ∧ x.pc ≤ y.pc ∧ (y.b.length : Int) ≤ y.pc + 1 ∧ y.b.length ≤ x.b.length + 1 ∧ (∀ q ∈ y.b, 0 ≤ q.ad ∧ q.ad < (nw : Int)) ∧ (o = 1 → y.b = []) := by
  have hc : i.kd = 7 → 0 ≤ i.ct ∧ i.ct ≤ 10 := fun h3 => by simp [fitB, inB, h3] at hf; omega
  have ha : i.kd = 2 → 0 ≤ i.ad ∧ i.ad < (nw : Int) := fun h3 => by simp [fitB, inB, h3] at hf; omega
  have hk : 1 ≤ i.kd ∧ i.kd ≤ 7 := by simp only [fitB, inB, Bool.and_eq_true, decide_eq_true_eq] at hf; omega
  have hw := ht.wl
  have hsc := ht.sc
  have hba := ht.ba
  unfold stp at h
  repeat' split at h
  all_goals first
    | (cases h; done)
    | (cases h; refine ⟨by simpa using hw, by first | (dsimp only; omega) | omega, by first | (simp only [List.length_append, List.length_cons, List.length_nil]; omega) | (dsimp only; omega) | omega, by first | (simp only [List.length_append, List.length_cons, List.length_nil]; omega) | (dsimp only; omega) | omega, ?_, ?_⟩ <;> first | exact hba | exact hsc | skip)
  all_goals first
    | (intro q hq; simp at hq; rcases hq with hq | rfl
       · exact hba q hq
       · exact ha (by assumption))
    | (intro e; contradiction)
theorem Wg.next {l : Lt} {o : Int} {s : Sv} {t : Tn} (hc : chkB l = true) (h : Wg l o s) : Wg l o (trn l o s t) := by
  obtain ⟨c1, c2, c3⟩ := chk_len hc
  refine ⟨trn_shp h.sh, fun k c hk => ?_⟩
  unfold trn
  cases ha : act l o s t with
  | none => exact h.tp k c hk
  | some x =>
    have hws := (act_ws ha).trans h.sh.w
    unfold act at ha
    split at ha
    · rename_i hin
      obtain ⟨tn, htn⟩ := Int.eq_ofNat_of_zero_le hin.1
      have htl : tn < l.th.length := by omega
      rw [htn, Int.toNat_natCast] at ha
      show Tp o c.length l.ws.length (vw (upd s t.th.toNat x) k) ∧ _
      rw [htn, Int.toNat_natCast]
      show _ ∧ ((vw (upd s tn x) k).b.length : Int) ≤ (vw (upd s tn x) k).pc
      rw [vw_upd h.sh htl]
      obtain ⟨hT, hB⟩ := h.tp k c hk
      by_cases e : k = tn
      · subst e
        rw [if_pos rfl]
        obtain ⟨cl, cf⟩ := c3 c (List.mem_of_getElem? hk)
        split at ha
        · unfold out1 at ha
          split at ha
          · cases ha
          · rename_i n hn
            split at ha
            · cases ha
            · rename_i p hp
              cases ha
              have hl := (List.getElem?_eq_some_iff.1 hp).1
              have hel : ((vw s k).b.eraseIdx n).length = (vw s k).b.length - 1 := by rw [List.length_eraseIdx, if_pos hl]
              refine ⟨⟨by simpa using hT.wl, hT.p0, hT.p1, ?_, fun q hq => hT.ba q (List.mem_of_mem_eraseIdx hq), fun e => ?_⟩, ?_⟩
              · show ((vw s k).b.eraseIdx n).length ≤ 10
                have := hT.b1; omega
              · have := hT.sc e; rw [this] at hl; simp at hl
              · show (((vw s k).b.eraseIdx n).length : Int) ≤ (vw s k).pc
                omega
        · have hg : l.th.getD k [] = c := by simp [List.getD_eq_getElem?_getD, hk]
          rw [hg] at ha
          unfold ins at ha
          split at ha
          · cases ha
          · rename_i i hi
            cases hs : stp o i (vw s k) with
            | none => rw [hs] at ha; cases ha
            | some y =>
              rw [hs] at ha
              cases ha
              have hil := (List.getElem?_eq_some_iff.1 hi).1
              have hp0 := hT.p0
              obtain ⟨y1, y2, y3, y4, y5, y6⟩ := stp_more (cf i (List.mem_of_getElem? hi)) hT hB (by omega) cl hs
              refine ⟨⟨y1, ?_, ?_, ?_, y5, y6⟩, ?_⟩
              · show 0 ≤ min (y.pc + 1) (c.length : Int); omega
              · show min (y.pc + 1) (c.length : Int) ≤ (c.length : Int); omega
              · show y.b.length ≤ 10; omega
              · show (y.b.length : Int) ≤ min (y.pc + 1) (c.length : Int); omega
      · rw [if_neg e]
        exact ⟨⟨hws, hT.p0, hT.p1, hT.b1, hT.ba, hT.sc⟩, hB⟩
    · cases ha
theorem Wg.beg (l : Lt) (o : Int) : Wg l o (begS l) := by
  refine ⟨⟨rfl, by simp [begS], by simp [begS], by simp [begS]⟩, fun k c hk => ?_⟩
  have hl := (List.getElem?_eq_some_iff.1 hk).1
  have e : vw (begS l) k = ⟨l.ws, noRg, 0, []⟩ := by simp [vw, begS, List.getD_eq_getElem?_getD, hl]
  rw [e]
  exact ⟨⟨rfl, Int.le_refl _, by show (0 : Int) ≤ _; omega, by simp, fun q hq => by simp at hq, fun _ => rfl⟩, by simp⟩
/-- How turns go on, from some state. -/
def goS (l : Lt) (o : Int) (x : Sv × Nat) (ts : List Tn) : Sv × Nat := ts.foldl (fun x t => (trn l o x.1 t, if (act l o x.1 t).isSome then x.2 + 1 else x.2)) x
theorem goS_snoc (l : Lt) (o : Int) (x : Sv × Nat) (ts : List Tn) (t : Tn) : goS l o x (ts ++ [t]) = (trn l o (goS l o x ts).1 t, if (act l o (goS l o x ts).1 t).isSome then (goS l o x ts).2 + 1 else (goS l o x ts).2) := by
  unfold goS
  rw [List.foldl_append]
  rfl
theorem goS_wg {l : Lt} {o : Int} (hc : chkB l = true) : ∀ (ts : List Tn), Wg l o (goS l o (begS l, 0) ts).1 := by
  intro ts
  have key : ∀ (ts : List Tn) (x : Sv × Nat), Wg l o x.1 → Wg l o (goS l o x ts).1 := by
    intro ts
    induction ts with
    | nil => exact fun x h => h
    | cons t ts ih => exact fun x h => ih _ (h.next hc)
  exact key ts _ (Wg.beg l o)
theorem goS_le (l : Lt) (o : Int) : ∀ (ts : List Tn) (x : Sv × Nat), (goS l o x ts).2 ≤ x.2 + ts.length := by
  intro ts
  induction ts with
  | nil => intro x; simp [goS]
  | cons t ts ih =>
    intro x
    have h := ih (trn l o x.1 t, if (act l o x.1 t).isSome then x.2 + 1 else x.2)
    show (goS l o (trn l o x.1 t, if (act l o x.1 t).isSome then x.2 + 1 else x.2) ts).2 ≤ _
    simp only [List.length_cons]
    by_cases e : (act l o x.1 t).isSome = true
    · rw [if_pos e] at h ⊢; dsimp only at h; omega
    · rw [if_neg e] at h ⊢; dsimp only at h; omega
def nilS : Sv := ⟨[], [], [], []⟩
/-- What a run answers. -/
def runR (l : Lt) (o : Int) (ts : List Tn) : Sv × Nat × Int :=
  if chkB l = false then (nilS, 0, 190) else if 4096 < ts.length then (nilS, 0, 3) else if ordB o = false then (nilS, 0, 191) else ((goS l o (begS l, 0) ts).1, (goS l o (begS l, 0) ts).2, 0)
theorem SvAt.nil (W : World) : SvAt W #[.slice none 0 0, .slice none 0 0, .slice none 0 0, .slice none 0 0] nilS 0 0 0 0 :=
  ⟨_, _, _, _, _, _, _, _, rfl, ⟨rfl, .inl rfl⟩, ⟨rfl, .inl rfl⟩, ⟨rfl, .inl rfl⟩, ⟨rfl, .inl rfl⟩⟩
end Go.Proofs.YtmejblmeaipahaaDoor.Ts
/-
  TSO: the program's first.
-/
namespace Go.Proofs.YtmejblmeaipahaaDoor.Ts
open Go.RowKit Mr
set_option linter.unusedVariables false
set_option linter.unusedSimpArgs false
set_option maxRecDepth 100000
def z118 : Array Value := (List.replicate 118 (Value.int .i64 0)).toArray
theorem z118_get (i : Nat) (h : i < 118) : z118[i]? = some (.int .i64 0) := by
  unfold z118
  rw [List.getElem?_toArray, List.getElem?_replicate, if_pos h]
theorem info_z : ∃ i, Tryd.prog.info? 62 = some i ∧ i.zero = some (.agg z118) ∧ i.size = 118 ∧ i.bytes = 944 := info_of (by kernel_rfl)
theorem zero_z (W : World) : (zeroValue 62).run Tryd.prog W = .ok (.agg z118) W := by
  obtain ⟨i, h1, h2, -, -⟩ := info_z
  simp [zeroValue, typeInfo, h1, h2]
theorem szz : (Tryd.prog.info? 62).map (·.size) = some 118 := by
  obtain ⟨i, h1, -, h3, -⟩ := info_z
  simp [h1, h3]
/-- The array of the first state. -/
def fstA (ws : List Int) : Array Value := (z118.toList.take 0 ++ intsV ws ++ z118.toList.drop (0 + ws.length)).toArray
theorem fstA_size (ws : List Int) (h : ws.length ≤ 6) : (fstA ws).size = 118 := by simp [fstA, z118, intsV]; omega
theorem fstA_enc (l : Lt) (h : l.ws.length ≤ 6) (h4 : l.th.length ≤ 4) : Enc (fstA l.ws) (begS l) := by
  refine ⟨fstA_size _ h, fun i hi => ?_⟩
  unfold fstA
  rw [List.getElem?_toArray]
  simp only [List.take_zero, List.nil_append, Nat.zero_add]
  by_cases h1 : i < l.ws.length
  · rw [List.getElem?_append_left (by simpa [intsV] using h1)]
    simp only [enc, show i < 6 by omega, if_true, begS, intsV, List.getElem?_map, List.getElem?_eq_getElem h1, Option.map_some, Option.getD_some]
  · rw [List.getElem?_append_right (by simpa [intsV] using h1)]
    have e0 : enc (begS l) i = 0 := by
      unfold enc begS
      dsimp only
      by_cases c1 : i < 6
      · rw [if_pos c1, List.getElem?_eq_none (by omega)]; rfl
      · rw [if_neg c1]
        by_cases c2 : i < 22
        · rw [if_pos c2, List.getElem?_replicate]
          split
          · have : (i - 6) % 4 < 4 := Nat.mod_lt _ (by decide)
            generalize (i - 6) % 4 = k at this
            rcases k with _ | _ | _ | _ | k
            all_goals first | rfl | omega
          · rfl
        · rw [if_neg c2]
          by_cases c3 : i < 26
          · rw [if_pos c3, List.getElem?_replicate]; split <;> rfl
          · rw [if_neg c3]
            by_cases c4 : i < 30
            · rw [if_pos c4, List.getElem?_replicate]; split <;> rfl
            · rw [if_neg c4, List.getElem?_replicate]; split
              · simp [bsC, bfC]
              · rfl
    rw [e0, List.getElem?_drop]
    have hz := z118_get i hi
    rw [show l.ws.length + (i - (intsV l.ws).length) = i by simp [intsV]; omega]
    simpa using hz
theorem fstA_one (ws : List Int) : (fstA ws).all (·.oneCell') = true := by
  rw [Array.all_eq_true_iff_forall_mem]
  intro v hv
  simp only [fstA, List.mem_toArray, List.mem_append] at hv
  rcases hv with (hv | hv) | hv
  · simp at hv
  · exact intsV_one _ v hv
  · have := List.mem_of_mem_drop hv
    simp [z118] at this
    subst this; rfl
set_option maxHeartbeats 8000000 in
theorem first_any (l : Lt) (aw at' : Option Addr) (nw cw nt ct : Nat) (w : World) (hI : IsAt w aw nw l.ws) (h6 : nw ≤ 6) (h1 : 1 ≤ nw) : Calls Tryd.prog 23 #[.agg #[.slice aw nw cw, .slice at' nt ct]] w fun e w' => e = .returned (.agg (fstA l.ws)) ∧ Below w.heap.size w w' := by
  have hz := zero_z
  obtain ⟨zs, hzs⟩ : ∃ zs, zs = z118 := ⟨_, rfl⟩
  rw [← hzs] at hz
  have hsz : zs.size = 118 := by rw [hzs]; rfl
  obtain ⟨g, q, rfl, hg, hc⟩ := hI.2.resolve_left (by intro e; have := hI.1; rw [e] at this; simp at this; omega)
  have hl := hI.1
  have B1 : Below w.heap.size w (((w.alloc (.cells #[.slice (some ⟨g, q, none⟩) nw cw, .slice at' nt ct] 25)).alloc (.cells zs 62)).alloc (.cells zs 62)) := (((Below.refl _ _).alloc (Nat.le_refl _) _).alloc (by simp) _).alloc (by simp; omega) _
  have hb0 : (((w.alloc (.cells #[.slice (some ⟨g, q, none⟩) nw cw, .slice at' nt ct] 25)).alloc (.cells zs 62)).alloc (.cells zs 62)).heap[w.heap.size]? = some (.cells #[.slice (some ⟨g, q, none⟩) nw cw, .slice at' nt ct] 25 (0, 0)) := (Lib.alloc_old _ _ _ (by simp; omega)).trans ((Lib.alloc_old _ _ _ (by simp)).trans (new_at _ _ _ rfl))
  have hb1 : (((w.alloc (.cells #[.slice (some ⟨g, q, none⟩) nw cw, .slice at' nt ct] 25)).alloc (.cells zs 62)).alloc (.cells zs 62)).heap[w.heap.size + 1]? = some (.cells zs 62 (0, 0)) := (Lib.alloc_old _ _ _ (by simp)).trans (new_at _ _ _ (by simp))
  have hb2 : (((w.alloc (.cells #[.slice (some ⟨g, q, none⟩) nw cw, .slice at' nt ct] 25)).alloc (.cells zs 62)).alloc (.cells zs 62)).heap[w.heap.size + 1 + 1]? = some (.cells zs 62 (0, 0)) := new_at _ _ _ (by simp)
  have c0 := cell_blk hb0 0
  have hA2 : Ar (((w.alloc (.cells #[.slice (some ⟨g, q, none⟩) nw cw, .slice at' nt ct] 25)).alloc (.cells zs 62)).alloc (.cells zs 62)) (w.heap.size + 1 + 1) zs := ⟨hb2, hsz⟩
  have hfa : Hid (zs.toList.take 0 ++ intsV l.ws ++ zs.toList.drop (0 + (intsV l.ws).length) = (fstA l.ws).toList) := by
    show _ = _
    rw [hzs]; simp [fstA, intsV]
  have hfs : (fstA l.ws).size = 118 := fstA_size _ (by omega)
  have hfo := fstA_one l.ws
  have WD := Mr.hid (fun (W : World) (h : Ar W (w.heap.size + 1 + 1) zs) => words_any (w.heap.size + 1 + 1) zs W h)
  have hrun : Hid (∀ (W : World) (ty : TypeId), Below w.heap.size w W → W.heap[w.heap.size + 1 + 1]? = some (.cells zs 62 (0, 0)) → (Builtin.copy_ #[22, 22] ty #[.slice (some ⟨w.heap.size + 1 + 1, 0, none⟩) 6 118, .slice (some ⟨g, q, none⟩) nw cw]).run Tryd.prog W = .ok (goInt ((nw : Nat) : Int)) (W.setRow (w.heap.size + 1 + 1) (fstA l.ws))) := fun W ty hW hb => by
    obtain ⟨ii, hii, hz, hs1, hby⟩ := info_i
    have hlen : (intsV l.ws).length = nw := by simp [intsV]; omega
    have h := run_copy_row (P := Tryd.prog) W 22 22 ty 3 (w.heap.size + 1 + 1) 0 6 118 ⟨g, q, none⟩ nw cw zs 62 (intsV l.ws) Tryd.underlying22 (by rw [hii]; simp [hs1]) hb (by rw [hlen]; show _ = min nw 6; omega) (fun j v hv => by
      rw [add1]
      simp only [intsV, List.getElem?_map] at hv
      cases hx : l.ws[j]? with
      | none => rw [hx] at hv; cases hv
      | some y => rw [hx] at hv; cases hv; exact (hW.cell (p := ⟨g, q + j, none⟩) hg).trans (hc j y hx)) (by rw [hlen]; omega) (intsV_one _)
    rw [hlen] at h
    have e2 := hfa.out
    rw [hlen] at e2
    rw [e2] at h
    exact h
  replace hzs := Mr.hid hzs
  replace hl := Mr.hid hl
  replace B1 := Mr.hid B1
  replace hA2 := Mr.hid hA2
  clear hI hc hb0 hfa hg
  go_enter Tryd.func23, Tryd.ntmps23
  go_upto_region 2 with fail
  generalize (((w.alloc (.cells #[.slice (some ⟨g, q, none⟩) nw cw, .slice at' nt ct] 25)).alloc (.cells zs 62)).alloc (.cells zs 62)) = w1 at *
  refine wp_region_held_drew (S := (fun W => W.cell? ⟨w.heap.size, 0, none⟩ = some (.slice (some ⟨g, q, none⟩) nw cw))) (by kernel_rfl) c0 (fun hHeld => ?_)
  try simp only [Act.put, List.setIfInBounds_toArray, List.set_cons_zero, List.set_cons_succ]
  refine wpAnyH_take (i := 1) (oi := (⟨_, _, _, _, _, _⟩ : Oper)) (v := ?_) rfl (by kernel_rfl) (by kernel_rfl) (by kernel_rfl) (fun _ _ _ h => h) (Or.inl ⟨by rfl, ?_⟩) (by assumption) ?_
  rotate_left
  · intro w9 hSw
    (try dsimp only at hSw)
    go_simp
    all_goals (with_reducible rfl)
  try simp only [Act.put, List.setIfInBounds_toArray, List.set_cons_zero, List.set_cons_succ]
  refine wpAnyH_take (i := 2) (oi := (⟨_, _, _, _, _, _⟩ : Oper)) (v := ?_) rfl (by kernel_rfl) (by kernel_rfl) (by kernel_rfl) (fun _ _ _ h => h) (Or.inl ⟨by rfl, ?_⟩) (by assumption) ?_
  rotate_left
  · intro w9 hSw
    (try dsimp only at hSw)
    go_simp
    all_goals (with_reducible rfl)
  try simp only [Act.put, List.setIfInBounds_toArray, List.set_cons_zero, List.set_cons_succ]
  refine wpAnyH_ready (rs := [0]) (by kernel_rfl) (by simp) ?_
  refine AllReadyH.cons (o := (⟨_, _, _, _, _, _⟩ : Oper)) rfl (fun K hK => ?_) (AllReadyH.nil)
  go_simp
  go_at_call 35
  refine (WD.out _ (hA2.out.below (Below.refl _ _).drew)).mono ?_
  clear WD
  rintro e w9 ⟨rfl, hw9⟩
  obtain rfl := hw9.symm
  try (go_wp2_with fail)
  refine hK.out _ _ c0 (fun hHeld9 => ?_)
  clear hK K hHeld
  have hHeld := hHeld9
  clear hHeld9
  try simp only [Act.put, List.setIfInBounds_toArray, List.set_cons_zero, List.set_cons_succ]
  refine wpAnyH_ready (rs := [3]) (by kernel_rfl) (by simp) ?_
  refine AllReadyH.cons (o := (⟨_, _, _, _, _, _⟩ : Oper)) rfl (fun K hK => ?_) (AllReadyH.nil)
  refine wp_copyT _ _ 22 22 rfl _ _ rfl rfl _ _ (hrun.out w1.drew _ B1.out.drew hb2) ?_
  have c9 : (w1.drew.setRow (w.heap.size + 1 + 1) (fstA l.ws)).cell? ⟨w.heap.size, 0, none⟩ = some (.slice (some ⟨g, q, none⟩) nw cw) := (World.cell?_of_block (a := ⟨w.heap.size, 0, none⟩) (setRow_other w1.drew (w.heap.size + 1 + 1) w.heap.size _ (by omega))).trans c0
  refine hK.out _ _ c9 (fun hHeld9 => ?_)
  clear hK K hHeld
  have hHeld := hHeld9
  clear hHeld9
  try simp only [Act.put, List.setIfInBounds_toArray, List.set_cons_zero, List.set_cons_succ]
  refine wpAnyH_done (by kernel_rfl) ?_ _
  have hB3 : Below w.heap.size w (w1.drew.setRow (w.heap.size + 1 + 1) (fstA l.ws)) := ⟨B1.out.os, B1.out.tape, B1.out.output, by have := B1.out.size; simpa using this, fun k hk => (setRow_other w1.drew (w.heap.size + 1 + 1) k _ (by omega)).trans (B1.out.block k hk)⟩
  have g2 : (w1.drew.setRow (w.heap.size + 1 + 1) (fstA l.ws)).heap[w.heap.size + 1 + 1]? = some (.cells (fstA l.ws) 62 (0, 0)) := setRow_heap w1.drew (w.heap.size + 1 + 1) zs _ 62 _ hb2
  have g1 : (w1.drew.setRow (w.heap.size + 1 + 1) (fstA l.ws)).heap[w.heap.size + 1]? = some (.cells zs 62 (0, 0)) := (setRow_other w1.drew (w.heap.size + 1 + 1) (w.heap.size + 1) _ (by omega)).trans hb1
  have szf : (Tryd.prog.info? 62).map (·.size) = some (fstA l.ws).size := by rw [hfs]; exact szz
  have hszf : zs.size = (fstA l.ws).size := by rw [hsz, hfs]
  have hB4 : Hid (Below w.heap.size w ((w1.drew.setRow (w.heap.size + 1 + 1) (fstA l.ws)).setRow (w.heap.size + 1) (fstA l.ws))) := ⟨hB3.os, hB3.tape, hB3.output, by have := hB3.size; simpa using this, fun k hk => (setRow_other _ (w.heap.size + 1) k _ (by omega)).trans (hB3.block k hk)⟩
  have g4 : Hid (((w1.drew.setRow (w.heap.size + 1 + 1) (fstA l.ws)).setRow (w.heap.size + 1) (fstA l.ws)).heap[w.heap.size + 1]? = some (.cells (fstA l.ws) 62 (0, 0))) := setRow_heap _ (w.heap.size + 1) zs _ 62 _ g1
  replace szf := Mr.hid szf
  clear hrun hB3 c9 hHeld hb1 hb2 hA2 B1
  generalize w1.drew.setRow (w.heap.size + 1 + 1) (fstA l.ws) = w3 at *
  go_wp2_with (first | (refine wpList_load_row rfl 62 _ rfl (w.heap.size + 1 + 1) rfl 62 _ _ _ g2 Tryd.underlying62 rfl szf.out ?_) | (refine wpList_store_row rfl 62 _ _ rfl (w.heap.size + 1) (fstA l.ws) rfl rfl 62 zs g1 szf.out hszf hfo ?_))
  refine bodyPost_ret (v := .agg (fstA l.ws)) (results_cell_row Tryd.results23 _ _ (w.heap.size + 1) 62 (fstA l.ws) (0, 0) _ rfl g4.out Tryd.underlying62 rfl szf.out) rfl ⟨rfl, hB4.out⟩
end Go.Proofs.YtmejblmeaipahaaDoor.Ts
