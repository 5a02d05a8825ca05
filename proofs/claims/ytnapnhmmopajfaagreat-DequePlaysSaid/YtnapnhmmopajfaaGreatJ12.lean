import Derived.Test.YtnapnhmmopajfaaGreatJ11
/-
  Machine.begin by its contract, whatever the kit's maker makes, wherever it lies.
-/
namespace Go.Proofs.YtnapnhmmopajfaaGreat.Ma
open Go.RowKit Mr Me
section
variable {W : World} {U S : Nat → Prop} {q : Ph} {s : Ss} {X : Nat → Obj → Prop} {vl va : Value}
set_option maxRecDepth 100000 in
set_option maxHeartbeats 1000000 in
theorem machBegin_ex (h : Mch W U S q vl va s X) (hr : s.cls.length ≤ 100000) (i : Nat) (t : Th) (ht : s.ths[i]? = some t) (op arg data now : Int) (km : Nat) (hvk : q.vk = .map (some km)) {Z : TypeId → Value → (Nat → Obj → Prop) → World → Prop}
    (KB : Calls Tryz.prog 38 #[q.vk, .agg #[.int .i64 (i : Int), .int .i64 op, .int .i64 arg, .int .i64 data]] (W.alloc (mvO i op arg data)).drew fun e w' => ∃ ty x, e = .returned (.iface ty x) ∧ Below (W.heap.size + 1) (W.alloc (mvO i op arg data)).drew w' ∧ ∃ N, (∀ k o, N k o → W.heap.size ≤ k ∧ w'.heap[k]? = some o) ∧ Z ty x N w') :
    Calls Tryz.prog 24 #[.pointer (some ⟨q.b, 0, none⟩), .agg #[.int .i64 (i : Int), .int .i64 op, .int .i64 arg, .int .i64 data], .int .i64 now] W fun e w' => e = .returned (.bool true) ∧
      ∃ ty x vc' N w2, Goes W U { q with vc := vc' } { s with cls := s.cls ++ [⟨i, op, arg, data, now, -1, -1, 0, 0⟩], ths := s.ths.set i ⟨.iface ty x, true, (s.cls.length : Int), 0, 0⟩ } (fun k o => X k o ∨ N k o) w' ∧ Z ty x N w2 := by
  obtain ⟨hx, hm⟩ := h
  have hil : i < s.ths.length := (List.getElem?_eq_some_iff.1 ht).1
  have hnt : s.ths.length = q.nt := by
    obtain ⟨a', c', e, _⟩ := hm.thr.form
    injection e with e1 e2 e3
    exact e2.symm
  have hiq : i < q.nt := by omega
  have hiq' : (i : Int) < (q.nt : Int) := by omega
  have hlt := hm.lt
  have m0 : ∀ o, (W.alloc o).cell? ⟨q.b, 0, none⟩ = some q.vk := fun o => by rw [World.cell?_alloc_past _ _ _ hlt]; exact hm.m0
  have y : ∀ j u, #[Value.int .i64 (i : Int), .int .i64 op, .int .i64 arg, .int .i64 data].toList[j]? = some u → (W.alloc (mvO i op arg data)).cell? ((⟨W.heap.size, 0, none⟩ : Addr).add j) = some u := newsAt W _ #[.int .i64 (i : Int), .int .i64 op, .int .i64 arg, .int .i64 data] 27 _ rfl rfl
  have y0 : (W.alloc (mvO i op arg data)).cell? ⟨W.heap.size, 0, none⟩ = some (.int .i64 (i : Int)) := y 0 _ rfl
  have y1 : (W.alloc (mvO i op arg data)).cell? ⟨W.heap.size, 1, none⟩ = some (.int .i64 op) := y 1 _ rfl
  have y2 : (W.alloc (mvO i op arg data)).cell? ⟨W.heap.size, 2, none⟩ = some (.int .i64 arg) := y 2 _ rfl
  have y3 : (W.alloc (mvO i op arg data)).cell? ⟨W.heap.size, 3, none⟩ = some (.int .i64 data) := y 3 _ rfl
  have m0' := m0 (mvO i op arg data)
  have B1 : Below W.heap.size W (W.alloc (mvO i op arg data)).drew := (Below.drew ((Below.refl _ _).alloc (Nat.le_refl _) (mvO i op arg data)))
  clear y m0
  have cellW := fun (w2 : World) (hB : Below (W.heap.size + 1) (W.alloc (mvO i op arg data)).drew w2) => (show w2.cell? ⟨W.heap.size, 0, none⟩ = some (.int .i64 (i : Int)) ∧ w2.cell? ⟨W.heap.size, 1, none⟩ = some (.int .i64 op) ∧ w2.cell? ⟨W.heap.size, 2, none⟩ = some (.int .i64 arg) ∧ w2.cell? ⟨W.heap.size, 3, none⟩ = some (.int .i64 data) ∧ Below W.heap.size W w2 from by
    exact ⟨(hB.cell (p := ⟨W.heap.size, 0, none⟩) (by simp)).trans y0, (hB.cell (p := ⟨W.heap.size, 1, none⟩) (by simp)).trans y1, (hB.cell (p := ⟨W.heap.size, 2, none⟩) (by simp)).trans y2, (hB.cell (p := ⟨W.heap.size, 3, none⟩) (by simp)).trans y3, B1.trans (hB.mono (by omega))⟩)
  have ndb : W.heap.size ≠ q.b := by omega
  have ngb : q.gt ≠ q.b := fun e => not_row hm.blk hm.thr (by decide) (by rw [← e]; rfl)
  have ngB : q.gt ≠ W.heap.size := by have := (hm.thr.lt q.gt rfl).2; omega
  have BB := fun (w2 : World) (hB : Below W.heap.size W w2) => bookBegin_any (hm.below hB) hr i op arg data now
  have cellM := fun (w2 : World) (hB : Below W.heap.size W w2) => (show w2.cell? ⟨q.b, 0, none⟩ = some (.map (some km)) ∧ w2.cell? ⟨q.b, 1, none⟩ = some (.slice (some ⟨q.gt, 0, none⟩) q.nt q.ct) ∧ w2.cell? ⟨q.b, 3, none⟩ = some (.pointer (some ⟨q.bb, 0, none⟩)) from
    ⟨by rw [← hvk]; exact (hm.below hB).m0, (hm.below hB).m1, (hm.below hB).m3⟩)
  have cell3 := fun (w2 w3 : World) (hB : Below (W.heap.size + 1) (W.alloc (mvO i op arg data)).drew w2) (hf : Fr w2 w3 (fun k => k = q.bb ∨ q.vc.ownBlock = some k)) => (show w3.cell? ⟨W.heap.size, 0, none⟩ = some (.int .i64 (i : Int)) ∧ w3.cell? ⟨W.heap.size, 1, none⟩ = some (.int .i64 op) ∧ w3.cell? ⟨W.heap.size, 2, none⟩ = some (.int .i64 arg) ∧ w3.cell? ⟨W.heap.size, 3, none⟩ = some (.int .i64 data) from by
    obtain ⟨z0, z1, z2, z3, z4⟩ := cellW w2 hB
    have hsz := hB.size
    have hb := hf.block W.heap.size (by simp at hsz; omega) (fun hu => by
      rcases hu with hu | hu
      · have := hm.ltb; omega
      · have := (hm.cal.lt _ hu).2; omega)
    exact ⟨(World.cell?_of_block hb).trans z0, (World.cell?_of_block hb).trans z1, (World.cell?_of_block hb).trans z2, (World.cell?_of_block hb).trans z3⟩)
  rw [hvk] at m0' KB
  have n0 : (W.alloc (.cells #[.int .i64 (i : Int), .int .i64 op, .int .i64 arg, .int .i64 data] 27)).cell? ⟨q.b, 0, none⟩ = some (.map (some km)) := m0'
  have hul := hm.ul
  have hsu := hm.su
  replace hm := Mr.hid hm
  replace hx := Mr.hid hx
  replace hnt := Mr.hid hnt
  clear hvk
  go_enter Tryz.func24, Tryz.ntmps24
  go_wp2
  go_region_held3 (fun w' => w'.cell? ⟨q.b, 0, none⟩ = some (.map (some km)) ∧ w'.cell? ⟨W.heap.size, 0, none⟩ = some (.int .i64 (i : Int)) ∧ w'.cell? ⟨W.heap.size, 1, none⟩ = some (.int .i64 op) ∧ w'.cell? ⟨W.heap.size, 2, none⟩ = some (.int .i64 arg) ∧ w'.cell? ⟨W.heap.size, 3, none⟩ = some (.int .i64 data)) (go_keep)
    (first | (go_at_call 38; refine KB.mono ?_; clear KB; rintro e w2 ⟨ty, x, rfl, hB2, N, ho2, hz2⟩; replace hz2 := Mr.hid hz2; replace ho2 := Mr.hid ho2; obtain ⟨z0, z1, z2, z3, z4⟩ := cellW w2 hB2; obtain ⟨c0, c1, c3⟩ := cellM w2 z4))
  have BB2 := BB w2.drew z4.drew
  have cell4 := fun (w3 : World) (hf : Fr w2 w3 (fun k => k = q.bb ∨ q.vc.ownBlock = some k)) => cell3 w2 w3 hB2 hf
  clear BB cell3 cellW cellM y0 y1 y2 y3 m0' n0
  go_wp2
  go_region_held3 (fun w' => w'.cell? ⟨q.b, 1, none⟩ = some (.slice (some ⟨q.gt, 0, none⟩) q.nt q.ct) ∧ w'.cell? ⟨q.b, 3, none⟩ = some (.pointer (some ⟨q.bb, 0, none⟩)) ∧ w'.cell? ⟨W.heap.size, 0, none⟩ = some (.int .i64 (i : Int)) ∧ w'.cell? ⟨W.heap.size, 1, none⟩ = some (.int .i64 op) ∧ w'.cell? ⟨W.heap.size, 2, none⟩ = some (.int .i64 arg) ∧ w'.cell? ⟨W.heap.size, 3, none⟩ = some (.int .i64 data)) (go_keep)
    (first | (go_at_call 39; refine BB2.mono ?_; clear BB2; rintro e w3 ⟨rfl, vc', hm3, hf3, hvc'⟩; have g1 := hm3.m1; have g3 := hm3.m3; have hf3' : Fr w2 w3 (fun k => k = q.bb ∨ q.vc.ownBlock = some k) := ((Fr.refl w2 _).drew.trans (hf3.mono (fun _ => .inl))); obtain ⟨v0, v1, v2, v3⟩ := cell4 w3 hf3'; clear cell4; have a0 : w3.cell? ⟨q.gt, i * 5, none⟩ = some t.tv := hm3.atTh rfl i 0 t _ ht rfl; have a1 := hm3.atTh rfl i 1 t _ ht rfl; have a2 := hm3.atTh rfl i 2 t _ ht rfl; have a3 := hm3.atTh rfl i 3 t _ ht rfl; have a4 := hm3.atTh rfl i 4 t _ ht rfl; have az := (fun j => hm3.thr.frozen (g := q.gt) rfl j); replace hm3 := Mr.hid hm3; replace hf3 := Mr.hid hf3; replace hvc' := Mr.hid hvc'))
  have fin : ∃ vc' N w2, Goes W U { q with vc := vc' } { s with cls := s.cls ++ [⟨i, op, arg, data, now, -1, -1, 0, 0⟩], ths := s.ths.set i ⟨.iface ty x, true, (s.cls.length : Int), 0, 0⟩ } (fun k o => X k o ∨ N k o) (((((w3.setCell ⟨q.gt, i * 5, none⟩ (.iface ty x)).setCell ⟨q.gt, i * 5 + 1, none⟩ (.bool true)).setCell ⟨q.gt, i * 5 + 2, none⟩ (.int .i64 (s.cls.length : Int))).setCell ⟨q.gt, i * 5 + 3, none⟩ (.int .i64 0)).setCell ⟨q.gt, i * 5 + 4, none⟩ (.int .i64 0)) ∧ Z ty x N w2 := by
    have q4 := hm3.out.wipeTh rfl i t ⟨.iface ty x, true, (s.cls.length : Int), 0, 0⟩ ht
    have f4 : Fr w2 (((((w3.setCell ⟨q.gt, i * 5, none⟩ (.iface ty x)).setCell ⟨q.gt, i * 5 + 1, none⟩ (.bool true)).setCell ⟨q.gt, i * 5 + 2, none⟩ (.int .i64 (s.cls.length : Int))).setCell ⟨q.gt, i * 5 + 3, none⟩ (.int .i64 0)).setCell ⟨q.gt, i * 5 + 4, none⟩ (.int .i64 0)) (fun k => (k = q.bb ∨ q.vc.ownBlock = some k) ∨ k = q.gt) := ((((((hf3'.mono (fun _ h => .inl h)).setCell _ _ (.inl (.inr rfl))).setCell _ _ (.inl (.inr rfl))).setCell _ _ (.inl (.inr rfl))).setCell _ _ (.inl (.inr rfl))).setCell _ _ (.inl (.inr rfl)))
    generalize ((((w3.setCell ⟨q.gt, i * 5, none⟩ (.iface ty x)).setCell ⟨q.gt, i * 5 + 1, none⟩ (.bool true)).setCell ⟨q.gt, i * 5 + 2, none⟩ (.int .i64 (s.cls.length : Int))).setCell ⟨q.gt, i * 5 + 3, none⟩ (.int .i64 0)).setCell ⟨q.gt, i * 5 + 4, none⟩ (.int .i64 0) = w5 at *
    have hs2 := z4.size
    have hs4 := f4.size
    have hgt0 := hm.out.thr.lt q.gt rfl
    have hsm : ∀ k, (k = q.bb ∨ q.vc.ownBlock = some k) ∨ k = q.gt → U k ∧ k < W.heap.size := fun k hk => by
      rcases hk with (hk | hk) | hk
      · rw [hk]; exact ⟨hm.out.ubb.1, hm.out.ltb⟩
      · exact ⟨(hm.out.cal.lt k hk).1.1, (hm.out.cal.lt k hk).2⟩
      · rw [hk]; exact ⟨hgt0.1.1, hgt0.2⟩
    have q5 := q4.own (U' := fun k => (U k ∨ W.heap.size ≤ k) ∧ k < w5.heap.size) (fun k hk => ⟨hk.1.elim .inl (fun h => .inr (by have h' : w2.heap.size ≤ k := h; omega)), q4.ul k hk⟩) (fun k hk => hk.2)
    refine ⟨vc', N, w2, ⟨_, S, vl, va, ⟨?_, q5⟩, fun k hk => ⟨.inl hk, by have := hul k hk; omega⟩, fun k hk => hk.1, ?_⟩, hz2.out⟩
    · intro k o hk
      rcases hk with hk | hk
      · obtain ⟨x1, x2, x3, x4, x5, x6, x7, x8⟩ := hx.out k o hk
        have hkl := hul k x2
        refine ⟨((f4.block k (by omega) (fun e => ?_)).trans (z4.block k hkl)).trans x1, ⟨.inl x2, by omega⟩, x3, x4, x5, x6, fun e => ?_, x8⟩
        · rcases e with (e | e) | e
          · exact x5 e
          · exact x7 e
          · exact x6 e
        · rcases hvc'.out k e with e | e
          · exact x7 e
          · have e' : w2.heap.size ≤ k := e
            omega
      · obtain ⟨hbt, ho2⟩ := ho2.out k o hk
        have hb2 : k < w2.heap.size := (Array.getElem?_eq_some_iff.1 ho2).1
        have hk5 : w5.heap[k]? = some o := (f4.block k hb2 (fun e => by have := (hsm k e).2; omega)).trans ho2
        refine ⟨hk5, ⟨.inr hbt, by omega⟩, fun hS => by have := hul k (hsu k hS); omega, fun e => ?_, fun e => ?_, fun e => ?_, fun e => ?_, fun e => ?_⟩
        · have := hm.out.lt
          have e' : k = q.b := e
          omega
        · have := hm.out.ltb
          have e' : k = q.bb := e
          omega
        · have e' : k = q.gt := e
          omega
        · rcases hvc'.out k e with e | e
          · have := (hm.out.cal.lt k e).2
            omega
          · have e' : w2.heap.size ≤ k := e
            omega
        · have := (hm.out.shf.lt k e).2
          omega
    · exact ((Fr.of_below z4).trans (f4.mono (fun k hk => .inl (hsm k hk).1)))
  replace fin := Mr.hid fin
  go_wp2
  go_ret
  exact ⟨rfl, ty, x, fin.out⟩
end
end Go.Proofs.YtnapnhmmopajfaaGreat.Ma
/-
  A MACHINE OF ANY TASKS as it lies in the world; Machine.step, begin, Move by their contracts, over the contracts of the layer's own tasks.
-/
namespace Go.Proofs.YtnapnhmmopajfaaGreat.Gm
open Go.RowKit Mr Me Ma
set_option linter.unusedVariables false
/-- How a layer's tasks lie in the world: the threads are in the tasks tk, share g, hold the interface values tv, and the objects X are theirs; the kit with its blocks. -/
structure Lay (τ γ : Type) where
  at_ : (Nat → Option τ) → γ → (Nat → Value) → (Nat → Obj → Prop) → Prop
  ka : World → (Nat → Prop) → Nat → Prop
  idle : ∀ {tk g tv X}, at_ tk g tv X → ∀ i, tk i = none → tv i = .nilIface
  busy : ∀ {tk g tv X}, at_ tk g tv X → ∀ i k, tk i = some k → ∃ ty v, tv i = .iface ty v
  kept : ∀ {W w K km}, ka W K km → (∀ k, K k → w.heap[k]? = W.heap[k]?) → ka w K km
section
variable {τ γ : Type} (Y : Sys τ γ) (L : Lay τ γ) (Inv : Pg τ γ → Prop)
/-- What a step of a task must do: the contract of work. -/
def StepOk : Prop :=
  ∀ (P : Pg τ γ) (i : Nat) (t : Pt τ) (k : τ) (tv : Nat → Value) (X : Nat → Obj → Prop) (W0 : World) (U0 S0 X0 : Nat → Prop) (p : Ph) (s : Ss) (W1 : World) (c : Nat) (cl : Cl) (ef : Ef τ γ),
    ef = Y.stp t.fr i P.n P.ws P.g k → Inv P → Bd P → P.n < 65536 → P.pts[i]? = some t → t.tk = some k → L.at_ (tkF P.pts) P.g tv X → (∀ k o, X k o → X0 k) →
    s.ths[i]? = some ⟨tv i, false, t.call, t.ak, t.av⟩ → s.cls = P.cls → s.ws = P.ws → s.lg = P.lg → s.ah.length ≤ P.lg.length → t.call = c → P.cls[c]? = some cl →
    D W0 U0 S0 X0 p i (P.n : Int) X false s W1 →
    Calls Tryz.prog 36 #[tv i, .bool t.fr, .pointer (some ⟨p.bd, 0, none⟩)] W1 fun e w' =>
      e = .returned (.bool ef.tk.isNone) ∧ ∃ X' sp' mv' ah', D W0 U0 S0 X0 p i (P.n : Int) X' sp' { s with ths := s.ths.set i ⟨tv i, false, t.call, (told t.ak t.av ef.tl).1, (told t.ak t.av ef.tl).2⟩, cls := setP s.cls c ef.pt, ws := ef.ws, lg := s.lg ++ ef.la, mv := mv', ah := ah' } w' ∧
        ah'.length ≤ (P.lg ++ ef.la).length ∧ L.at_ (upd (tkF P.pts) i ef.tk) ef.g (upd tv i (if ef.tk.isNone = true then .nilIface else tv i)) X'
/-- What the kit must do: the contract of Kit.begin. -/
def BegOk : Prop :=
  ∀ (P : Pg τ γ) (i : Nat) (t : Pt τ) (op arg data : Int) (tv : Nat → Value) (X : Nat → Obj → Prop) (V : World) (K : Nat → Prop) (km : Nat),
    Inv P → Bd P → P.pts[i]? = some t → t.tk = none → L.at_ (tkF P.pts) P.g tv X → (∀ k o, X k o → V.heap[k]? = some o) → L.ka V K km → (∀ k, K k → k < V.heap.size) →
    match Y.mkr i op arg data P.g with
    | none => Calls Tryz.prog 38 #[.map (some km), .agg #[.int .i64 (i : Int), .int .i64 op, .int .i64 arg, .int .i64 data]] V fun e w' => e = .returned .nilIface ∧ Below V.heap.size V w'
    | some k => Calls Tryz.prog 38 #[.map (some km), .agg #[.int .i64 (i : Int), .int .i64 op, .int .i64 arg, .int .i64 data]] V fun e w' => ∃ ty x, e = .returned (.iface ty x) ∧ Below V.heap.size V w' ∧ ∃ N : Nat → Obj → Prop, (∀ k o, N k o → V.heap.size ≤ k ∧ w'.heap[k]? = some o) ∧ L.at_ (upd (tkF P.pts) i (some k)) P.g (upd tv i (.iface ty x)) (fun k o => X k o ∨ N k o)
/-- The machine in the world. -/
structure RG (W : World) (U K : Nat → Prop) (q : Ph) (km : Nat) (P : Pg τ γ) : Prop where
  ex : ∃ S vl va vc mv ah tv X, Mch W U S { q with vc := vc } vl va ⟨thsG P.pts tv, (P.n : Int), P.cls, [], P.ws, mv, P.lg, ah⟩ X ∧ L.at_ (tkF P.pts) P.g tv X ∧ ah.length ≤ P.lg.length
  kt : L.ka W K km
  ku : ∀ k, K k → ¬ U k ∧ k < W.heap.size
  vk : q.vk = .map (some km)
def OutG (W : World) (U K : Nat → Prop) (q : Ph) (km : Nat) (P' : Pg τ γ) (w : World) : Prop :=
  ∃ U', RG L w U' K q km P' ∧ (∀ k, U k → U' k) ∧ (∀ k, U' k → U k ∨ W.heap.size ≤ k) ∧ Fr W w U
variable {Y L Inv} {W : World} {U K : Nat → Prop} {q : Ph} {km : Nat} {P : Pg τ γ}
theorem RG.below {w : World} (hR : RG L W U K q km P) (hB : Below W.heap.size W w) : RG L w U K q km P := by
  obtain ⟨S, vl, va, vc, mv, ah, tv, X, hM, ha, hah⟩ := hR.ex
  exact ⟨⟨S, vl, va, vc, mv, ah, tv, X, hM.below hB, ha, hah⟩, L.kept hR.kt (fun k hk => hB.block k (hR.ku k hk).2), fun k hk => ⟨(hR.ku k hk).1, Nat.lt_of_lt_of_le (hR.ku k hk).2 hB.size⟩, hR.vk⟩
theorem OutG.same {w : World} (hR : RG L W U K q km P) (hB : Below W.heap.size W w) : OutG L W U K q km P w :=
  ⟨U, hR.below hB, fun _ h => h, fun _ h => .inl h, Fr.of_below hB⟩
theorem OutG.of {P' P0 : Pg τ γ} {vc : Value} {s2 : Ss} {X' : Nat → Obj → Prop} {tv' : Nat → Value} {mv' : Int} {ah' : List Int} {w : World} (hR : RG L W U K q km P0) (hg : Goes W U { q with vc := vc } s2 X' w)
    (hs : s2 = ⟨thsG P'.pts tv', (P'.n : Int), P'.cls, [], P'.ws, mv', P'.lg, ah'⟩) (ha : L.at_ (tkF P'.pts) P'.g tv' X') (hah : ah'.length ≤ P'.lg.length) : OutG L W U K q km P' w := by
  obtain ⟨U', S, vl, va, hM, g1, g2, g3⟩ := hg
  subst hs
  refine ⟨U', ⟨⟨S, vl, va, vc, mv', ah', tv', X', hM, ha, hah⟩, L.kept hR.kt (fun k hk => g3.block k (hR.ku k hk).2 (hR.ku k hk).1), fun k hk => ⟨fun hu => ?_, Nat.lt_of_lt_of_le (hR.ku k hk).2 g3.size⟩, hR.vk⟩, g1, g2, g3⟩
  rcases g2 k hu with hu | hu
  · exact (hR.ku k hk).1 hu
  · have := (hR.ku k hk).2; omega
theorem step_g (SO : StepOk Y L Inv) (hR : RG L W U K q km P.count) (hI : Inv P) (hb : Bd P) (hn : P.n < 65536) (i : Nat) (t : Pt τ) (k : τ) (ht : P.pts[i]? = some t) (hk : t.tk = some k) :
    Calls Tryz.prog 23 #[.pointer (some ⟨q.b, 0, none⟩), .int .i64 (i : Int), .int .i64 (P.n : Int)] W fun e w' => e = .returned (.bool true) ∧ OutG L W U K q km (P.count.stepE i t P.n (Y.stp t.fr i P.n P.ws P.g k)) w' := by
  obtain ⟨S, vl, va, vc, mv, ah, tv, X, hM, ha, hah⟩ := hR.ex
  obtain ⟨c, hc, hcl⟩ := hb.cl i t ht (by rw [hk]; rfl)
  obtain ⟨cl, hclg⟩ : ∃ cl, P.cls[c]? = some cl := ⟨_, List.getElem?_eq_getElem hcl⟩
  obtain ⟨ty, v, hv⟩ := L.busy ha i k (by show tkF P.pts i = _; rw [tkF_at ht]; exact hk)
  have hi : i < P.pts.length := (List.getElem?_eq_some_iff.1 ht).1
  have hths : (thsG P.pts tv)[i]? = some ⟨tv i, t.fr, t.call, t.ak, t.av⟩ := by rw [thsG_get, ht]; rfl
  have hget : ∀ x : Th, ((thsG P.pts tv).set i x)[i]? = some x := fun x => by simp [thsG_len, hi]
  have hX0 : ∀ k, (∃ o, X k o) → U k := fun k ⟨o, h⟩ => (hM.1 k o h).2.1
  obtain ⟨ef, hef⟩ : ∃ ef, ef = Y.stp t.fr i P.n P.ws P.g k := ⟨_, rfl⟩
  have hcc : t.call.toNat = c := by rw [hc]; exact Int.toNat_natCast c
  have HW := fun W1 hD => SO P i t k tv X W U S (fun k => ∃ o, X k o) (({ q with vc := vc } : Ph).at W.heap.size) ⟨(thsG P.pts tv).set i ⟨tv i, false, t.call, t.ak, t.av⟩, (P.count.n : Int), P.cls, [], P.ws, mv, P.lg, ah⟩ W1 c cl ef hef hI hb hn ht hk ha (fun k o h => ⟨o, h⟩) (hget _) rfl rfl rfl hah hc hclg hD
  rw [← hef]
  cases he : ef.tk with
  | some k' =>
    refine (step_on (q := { q with vc := vc }) (X0 := fun k => ∃ o, X k o) hM i _ hths (P.n : Int) ty v hv hX0 (ths' := (thsG P.pts tv).set i ⟨tv i, false, t.call, (told t.ak t.av ef.tl).1, (told t.ak t.av ef.tl).2⟩) (cls' := setP P.cls c ef.pt)
      (Z := fun s' vs' X' _ => vs' = q.vs ∧ ∃ mv' ah', s' = ⟨(thsG P.pts tv).set i ⟨tv i, false, t.call, (told t.ak t.av ef.tl).1, (told t.ak t.av ef.tl).2⟩, (P.count.n : Int), setP P.cls c ef.pt, [], ef.ws, mv', P.lg ++ ef.la, ah'⟩ ∧ ah'.length ≤ (P.lg ++ ef.la).length ∧ L.at_ (upd (tkF P.pts) i ef.tk) ef.g (upd tv i (if ef.tk.isNone = true then .nilIface else tv i)) X') ?_).mono ?_
    · intro W1 hD
      refine (HW W1 hD).mono ?_
      rintro e w' ⟨rfl, X', sp', mv', ah', h1, h2, h3⟩
      refine ⟨by rw [he]; rfl, _, q.vs, X', sp', h1, ?_, rfl, rfl, mv', ah', ?_, h2, h3⟩
      · simp only [List.set_set]
      · simp only [List.set_set]
    · rintro e w' ⟨rfl, s', vs', X', w1, hg, e1, e2, rfl, mv', ah', rfl, z2, z3⟩
      refine ⟨rfl, OutG.of hR hg (tv' := tv) (mv' := mv') (ah' := ah') ?_ ?_ ?_⟩
      · simp only [Pg.stepE, he, Pg.count, hcc]
        have := thsG_put P.pts tv i ⟨some k', false, t.call, (told t.ak t.av ef.tl).1, (told t.ak t.av ef.tl).2⟩ (tv i)
        rw [upd_self] at this
        rw [← this]
      · simp only [Pg.stepE, he, Pg.count]
        rw [tkF_set _ _ _ hi]
        rw [he] at z3
        simpa [upd_self] using z3
      · simp only [Pg.stepE, he]; exact z2
  | none =>
    obtain ⟨cl', hcl'⟩ : ∃ cl', (setP P.cls c ef.pt)[c]? = some cl' := ⟨_, List.getElem?_eq_getElem (by rw [setP_len]; exact hcl)⟩
    refine (step_off (q := { q with vc := vc }) (X0 := fun k => ∃ o, X k o) hM i _ hths (P.n : Int) ty v hv hX0 (ths' := (thsG P.pts tv).set i ⟨tv i, false, t.call, (told t.ak t.av ef.tl).1, (told t.ak t.av ef.tl).2⟩) (cls' := setP P.cls c ef.pt)
      (Z := fun s' vs' X' _ => vs' = q.vs ∧ ∃ mv' ah', s' = ⟨(thsG P.pts tv).set i ⟨tv i, false, t.call, (told t.ak t.av ef.tl).1, (told t.ak t.av ef.tl).2⟩, (P.count.n : Int), setP P.cls c ef.pt, [], ef.ws, mv', P.lg ++ ef.la, ah'⟩ ∧ ah'.length ≤ (P.lg ++ ef.la).length ∧ L.at_ (upd (tkF P.pts) i ef.tk) ef.g (upd tv i (if ef.tk.isNone = true then .nilIface else tv i)) X') ?_ _ (hget _) c hc cl' hcl').mono ?_
    · intro W1 hD
      refine (HW W1 hD).mono ?_
      rintro e w' ⟨rfl, X', sp', mv', ah', h1, h2, h3⟩
      refine ⟨by rw [he]; rfl, _, q.vs, X', sp', h1, ?_, rfl, rfl, mv', ah', ?_, h2, h3⟩
      · simp only [List.set_set]
      · simp only [List.set_set]
    · rintro e w' ⟨rfl, s', vs', X', w1, hg, e1, e2, rfl, mv', ah', rfl, z2, z3⟩
      refine ⟨rfl, OutG.of hR hg (tv' := upd tv i .nilIface) (mv' := mv') (ah' := ah') ?_ ?_ ?_⟩
      · simp only [Pg.stepE, he, Pg.count, hcc, List.set_set]
        have := thsG_put P.pts tv i ⟨none, false, t.call, 0, 0⟩ .nilIface
        rw [← this]
        have e3 : setE (setP P.cls c ef.pt) c (P.n : Int) (told t.ak t.av ef.tl).1 (told t.ak t.av ef.tl).2 = (setP P.cls c ef.pt).set c { cl' with fin := (P.n : Int), ak := (endA (told t.ak t.av ef.tl).1 (told t.ak t.av ef.tl).2).1, av := (endA (told t.ak t.av ef.tl).1 (told t.ak t.av ef.tl).2).2 } := by unfold setE; rw [hcl']
        rw [e3, ← hc]
      · simp only [Pg.stepE, he, Pg.count]
        rw [tkF_set _ _ _ hi]
        rw [he] at z3
        simpa using z3
      · simp only [Pg.stepE, he]; exact z2
theorem begin_g (BO : BegOk Y L Inv) (hR : RG L W U K q km P.count) (hI : Inv P) (hb : Bd P) (i : Nat) (t : Pt τ) (ht : P.pts[i]? = some t) (hk : t.tk = none) (op arg data : Int) :
    Calls Tryz.prog 24 #[.pointer (some ⟨q.b, 0, none⟩), .agg #[.int .i64 (i : Int), .int .i64 op, .int .i64 arg, .int .i64 data], .int .i64 (P.n : Int)] W fun e w' => e = .returned (.bool (P.count.begins Y i op arg data P.n).2) ∧ OutG L W U K q km (P.count.begins Y i op arg data P.n).1 w' := by
  obtain ⟨S, vl, va, vc, mv, ah, tv, X, hM, ha, hah⟩ := hR.ex
  have hi : i < P.pts.length := (List.getElem?_eq_some_iff.1 ht).1
  have hths : (thsG P.pts tv)[i]? = some ⟨tv i, t.fr, t.call, t.ak, t.av⟩ := by rw [thsG_get, ht]; rfl
  have hBV : Below W.heap.size W (W.alloc (mvO i op arg data)).drew := ((Below.refl _ _).alloc (Nat.le_refl _) _).drew
  have hsV : (W.alloc (mvO i op arg data)).drew.heap.size = W.heap.size + 1 := by simp
  have B := BO P i t op arg data tv X (W.alloc (mvO i op arg data)).drew K km hI hb ht hk ha (fun k o h => (hBV.block k (hM.2.ul k (hM.1 k o h).2.1)).trans (hM.1 k o h).1) (L.kept hR.kt (fun k hk => hBV.block k (hR.ku k hk).2)) (fun k hk => by have := (hR.ku k hk).2; omega)
  rw [hsV] at B
  cases hm : Y.mkr i op arg data P.g with
  | none =>
    have e0 : P.count.begins Y i op arg data P.n = (P.count, false) := by unfold Pg.begins; rw [show P.count.g = P.g from rfl, hm]
    rw [e0]
    rw [hm] at B
    refine (machBegin_none (q := { q with vc := vc }) hM i op arg data (P.n : Int) km hR.vk ?_).mono ?_
    · show Calls _ _ #[q.vk, _] _ _
      rw [hR.vk]
      exact B
    · rintro e w' ⟨rfl, hB⟩
      exact ⟨rfl, OutG.same hR hB⟩
  | some k =>
    have e0 : P.count.begins Y i op arg data P.n = ({ P.count with cls := P.cls ++ [⟨i, op, arg, data, P.n, -1, -1, 0, 0⟩], pts := P.pts.set i ⟨some k, true, (P.cls.length : Int), 0, 0⟩ }, true) := by unfold Pg.begins; rw [show P.count.g = P.g from rfl, hm]; rfl
    rw [e0]
    rw [hm] at B
    refine (machBegin_ex (q := { q with vc := vc }) hM (by have := hb.cls; have := hb.n; show P.cls.length ≤ 100000; omega) i _ hths op arg data (P.n : Int) km hR.vk (Z := fun ty x N _ => L.at_ (upd (tkF P.pts) i (some k)) P.g (upd tv i (.iface ty x)) (fun k o => X k o ∨ N k o)) ?_).mono ?_
    · show Calls _ _ #[q.vk, _] _ _
      rw [hR.vk]
      refine B.mono ?_
      rintro e w' ⟨ty, x, rfl, hB, N, hN, hat⟩
      exact ⟨ty, x, rfl, hB, N, fun k o h => ⟨by have := (hN k o h).1; omega, (hN k o h).2⟩, hat⟩
    · rintro e w' ⟨rfl, ty, x, vc', N, w2, hg, hat⟩
      refine ⟨rfl, OutG.of hR hg (tv' := upd tv i (.iface ty x)) (mv' := mv) (ah' := ah) ?_ ?_ hah⟩
      · have := thsG_put P.pts tv i ⟨some k, true, (P.cls.length : Int), 0, 0⟩ (.iface ty x)
        rw [← this]; rfl
      · show L.at_ (tkF (P.pts.set i _)) P.g _ _
        rw [tkF_set _ _ _ hi]; exact hat
theorem RG.counted (hR : RG L W U K q km P) (o : Obj) : RG L (Wn W q.b ((P.n : Int) + 1) o) U K q km P.count ∧ Fr W (Wn W q.b ((P.n : Int) + 1) o) U := by
  obtain ⟨S, vl, va, vc, mv, ah, tv, X, hM, ha, hah⟩ := hR.ex
  obtain ⟨h1, h2, h3⟩ := hM.setN ((P.n : Int) + 1) o
  refine ⟨⟨⟨S, vl, va, vc, mv, ah, tv, X, ?_, ha, hah⟩, L.kept hR.kt (fun k hk => h2.block k (hR.ku k hk).2 (hR.ku k hk).1), fun k hk => ⟨(hR.ku k hk).1, Nat.lt_of_lt_of_le (hR.ku k hk).2 h2.size⟩, hR.vk⟩, h2⟩
  have e : ((P.count.n : Nat) : Int) = (P.n : Int) + 1 := by simp [Pg.count]
  rw [e]
  exact h1
theorem OutG.from {W1 w : World} {P' : Pg τ γ} (hf : Fr W W1 U) (ho : OutG L W1 U K q km P' w) : OutG L W U K q km P' w := by
  obtain ⟨U', g1, g2, g3, g4⟩ := ho
  exact ⟨U', g1, g2, fun k hk => (g3 k hk).imp id (fun h => Nat.le_trans hf.size h), hf.trans (g4.mono (fun _ => .inl))⟩
theorem move_g (SO : StepOk Y L Inv) (BO : BegOk Y L Inv) (hR : RG L W U K q km P) (hI : Inv P) (hb : Bd P) (th op arg data : Int) :
    Calls Tryz.prog 11 #[.pointer (some ⟨q.b, 0, none⟩), .agg #[.int .i64 th, .int .i64 op, .int .i64 arg, .int .i64 data]] W fun e w' => e = .returned (.bool (P.move Y th op arg data).2) ∧ OutG L W U K q km (P.move Y th op arg data).1 w' := by
  obtain ⟨S, vl, va, vc, mv, ah, tv, X, hM, ha, hah⟩ := hR.ex
  by_cases hfull : 65536 ≤ P.n
  · have e : P.move Y th op arg data = (P, false) := by simp [Pg.move, hfull]
    rw [e]
    refine (mv_full (q := { q with vc := vc }) th op arg data hM (by show (65536 : Int) ≤ (P.n : Int); omega)).mono ?_
    rintro e w' ⟨rfl, hB⟩
    exact ⟨rfl, OutG.same hR hB⟩
  have hn : P.n < 65536 := by omega
  have hnI : ((P.n : Int)) < 65536 := by omega
  have hn0 : 0 ≤ (P.n : Int) := by omega
  have hnt : P.pts.length = q.nt := by rw [← thsG_len P.pts tv]; exact hM.nt
  by_cases hin : 0 ≤ th ∧ th < P.pts.length
  · obtain ⟨i, rfl⟩ : ∃ i : Nat, th = i := ⟨th.toNat, by omega⟩
    have hil : i < P.pts.length := by omega
    obtain ⟨t, ht⟩ : ∃ t, P.pts[i]? = some t := ⟨_, List.getElem?_eq_getElem hil⟩
    have hths : (thsG P.pts tv)[i]? = some ⟨tv i, t.fr, t.call, t.ak, t.av⟩ := by rw [thsG_get, ht]; rfl
    have em : P.move Y i op arg data = if op = 0 then P.count.step Y i t P.n else if t.tk.isSome = true then (P.count, false) else P.count.begins Y i op arg data P.n := by
      unfold Pg.move
      rw [if_neg hfull, if_pos hin, Int.toNat_natCast, ht]
    rw [em]
    obtain ⟨hRc, hfc⟩ := hR.counted (mvO i op arg data)
    by_cases hop : op = 0
    · subst hop
      rw [if_pos rfl]
      cases hk : t.tk with
      | none =>
        have e : P.count.step Y i t P.n = (P.count, false) := by simp [Pg.step, hk]
        rw [e]
        have htv : tv i = .nilIface := L.idle ha i (by rw [tkF_at ht]; exact hk)
        refine (mv_step (q := { q with vc := vc }) hM hnI hn0 i _ hths arg data (R := fun w' => w' = Wn W q.b ((P.n : Int) + 1) (mvO i 0 arg data)) (step_idle (hM.setN ((P.n : Int) + 1) (mvO i 0 arg data)).1 i _ hths htv _)).mono ?_
        rintro e w' ⟨rfl, rfl⟩
        exact ⟨rfl, OutG.from hfc (OutG.same hRc (Below.refl _ _))⟩
      | some k =>
        have ST := step_g SO hRc hI hb hn i t k ht hk
        have e : P.count.step Y i t P.n = (P.count.stepE i t P.n (Y.stp t.fr i P.n P.ws P.g k), true) := by simp [Pg.step, hk, Pg.count]
        rw [e]
        refine (mv_step (q := { q with vc := vc }) hM hnI hn0 i _ hths arg data ST).mono ?_
        rintro e w' ⟨rfl, ho⟩
        exact ⟨rfl, OutG.from hfc ho⟩
    · rw [if_neg hop]
      cases hk : t.tk with
      | none =>
        simp only [Option.isSome_none, Bool.false_eq_true, if_false]
        have htv : tv i = .nilIface := L.idle ha i (by rw [tkF_at ht]; exact hk)
        have BG := begin_g BO hRc hI hb i t ht hk op arg data
        refine (mv_begin (q := { q with vc := vc }) hM hnI hn0 i _ hths op arg data hop htv BG).mono ?_
        rintro e w' ⟨rfl, ho⟩
        exact ⟨rfl, OutG.from hfc ho⟩
      | some k =>
        simp only [Option.isSome_some, if_true]
        obtain ⟨ty, v, htv⟩ := L.busy ha i k (by rw [tkF_at ht]; exact hk)
        refine (mv_busy (q := { q with vc := vc }) hM hnI hn0 i _ hths op arg data hop ty v htv).mono ?_
        rintro e w' ⟨rfl, rfl⟩
        exact ⟨rfl, OutG.from hfc (OutG.same hRc (Below.refl _ _))⟩
  · have e : P.move Y th op arg data = (P.count, false) := by simp only [Pg.move, if_neg hfull, if_neg hin]
    rw [e]
    obtain ⟨hRc, hfc⟩ := hR.counted (mvO th op arg data)
    refine (mv_none (q := { q with vc := vc }) th op arg data hM hnI hn0 (by show th < 0 ∨ (q.nt : Int) ≤ th; omega)).mono ?_
    rintro e w' ⟨rfl, rfl⟩
    exact ⟨rfl, OutG.from hfc (OutG.same hRc (Below.refl _ _))⟩
end
end Go.Proofs.YtnapnhmmopajfaaGreat.Gm
