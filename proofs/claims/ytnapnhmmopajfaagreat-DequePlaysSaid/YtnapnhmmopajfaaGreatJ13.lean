import Derived.Test.YtnapnhmmopajfaaGreatJ07
import Derived.Test.YtnapnhmmopajfaaGreatJ12
/-
  THE DESK, further: Store, Now, Point by their contracts.
-/
namespace Go.Proofs.YtnapnhmmopajfaaGreat.Ma
open Go.RowKit Mr Me
section
variable {W0 : World} {U0 S0 X0 : Nat → Prop} {p : Ph} {i : Nat} {now : Int} {X : Nat → Obj → Prop} {s : Ss} {W : World} {sp : Bool}
def Ss.stores (s : Ss) (i : Nat) (now : Int) (ad : Nat) (x : Int) : Ss := { s with mv := now, ws := s.ws.set ad x, lg := s.lg ++ [⟨now, i, 2, ad, 0, x, 0⟩], ah := s.ah ++ [s.ws[ad]?.getD 0] }
set_option maxRecDepth 100000 in
set_option maxHeartbeats 1000000 in
theorem desk_store (h : D W0 U0 S0 X0 p i now X false s W) (hb : Me.Roomy s.lg s.ah) (ad : Nat) (hi : ad < s.ws.length) (x : Int) :
    Calls Tryz.prog 84 #[.pointer (some ⟨p.bd, 0, none⟩), .int .i64 (ad : Int), .int .u64 x] W fun e w' => e = .returned (.tuple #[]) ∧ D W0 U0 S0 X0 p i now X true (s.stores i now ad x) w' := by
  have C := access_yes h
  have L : ∀ w1, D W0 U0 S0 X0 p i now X false { s with mv := now } w1 → Calls Tryz.prog 94 #[.pointer (some ⟨p.bm, 0, none⟩), .int .i64 (i : Int), .int .i64 (ad : Int), .int .u64 x] w1 fun e w' => e = .returned (.int .i64 0) ∧ D W0 U0 S0 X0 p i now X false (s.stores i now ad x) w' := fun w1 h1 => by
    obtain ⟨U, S, vl, va, hx, hm, hd, hU, hS0, hU0, hU1, hf⟩ := h1
    refine (store_ok hm.mem hb i x ad hi).mono ?_
    rintro e w' ⟨rfl, ⟨vl', va', hm'⟩, hf'⟩
    exact ⟨rfl, D.turned (s := { s with mv := now }) hx hm hd hU hS0 hU0 hU1 hf hm' hf'⟩
  clear h hb
  generalize s.stores i now ad x = s' at *
  generalize ({ s with mv := now } : Ss) = s1 at *
  clear hi
  go_enter Tryz.func84, Tryz.ntmps84
  go_wp2_with (go_at_call 79; refine C.mono ?_; clear C; rintro e w1 ⟨rfl, h1⟩; obtain ⟨d0, e0, e1, e2, e3, e4, e4z, b0, b1⟩ := h1.cells)
  replace h1 := Mr.hid h1
  go_region_held3 (fun w' => w'.cell? ⟨p.bd, 0, none⟩ = some (.pointer (some ⟨p.be, 0, none⟩)) ∧ w'.cell? ⟨p.be, 0, none⟩ = some (.pointer (some ⟨p.bb, 0, none⟩)) ∧ w'.cell? ⟨p.be, 2, none⟩ = some (.int .i64 (i : Int)) ∧ w'.cell? ⟨p.bb, 0, none⟩ = some (.pointer (some ⟨p.bm, 0, none⟩))) (go_keep)
    (first | (go_at_call 94; refine (L _ h1.out.drew).mono ?_; clear L; rintro e w2 ⟨rfl, h2⟩; obtain ⟨g0, g1, g2, g3, g4, g5, g5z, g6, g7⟩ := h2.cells; replace h2 := Mr.hid h2))
  go_wp2
  go_end0
  exact ⟨rfl, h2.out.spent true⟩
end
section
variable {W : World} {bd be bb : Nat} {pt : Addr} {i now : Int} {sp : Bool}
theorem now_desk (h : Dk W bd be bb pt i now sp) : Calls Tryz.prog 76 #[.pointer (some ⟨bd, 0, none⟩)] W fun e w' => e = .returned (.int .i64 now) ∧ w' = W := by
  have d0 := h.d0
  have e3 := h.e3
  have C := open_yes h
  clear h
  go_enter Tryz.func76, Tryz.ntmps76
  go_wp2_with (go_at_call 86; refine C.mono ?_; clear C; rintro e w' ⟨rfl, hw⟩; obtain rfl := hw.symm)
  go_ret
  exact ⟨rfl, rfl⟩
end
section
variable {W0 : World} {U0 S0 X0 : Nat → Prop} {p : Ph} {i : Nat} {now : Int} {X : Nat → Obj → Prop} {s : Ss} {W : World} {sp : Bool}
set_option maxRecDepth 100000 in
set_option maxHeartbeats 1000000 in
theorem point_any (h : D W0 U0 S0 X0 p i now X sp s W) (t : Th) (ht : s.ths[i]? = some t) (c : Nat) (hcall : t.call = c) (cl : Cl) (hc : s.cls[c]? = some cl) (m : Int) :
    Calls Tryz.prog 75 #[.pointer (some ⟨p.bd, 0, none⟩), .int .i64 m] W fun e w' => e = .returned (.tuple #[]) ∧ D W0 U0 S0 X0 p i now X sp { s with cls := s.cls.set c { cl with pt := m } } w' := by
  have hcl : c < s.cls.length := (List.getElem?_eq_some_iff.1 hc).1
  obtain ⟨gc, cc, hv⟩ := h.vc (by omega)
  have C := open_yes h.dk
  obtain ⟨d0, e0, e1, e2, e3, e4, e4z, b0, b1⟩ := h.cells
  obtain ⟨a0, a0z⟩ := h.atTh i 2 t _ ht rfl
  obtain ⟨k0, k0z⟩ := h.atCl hv c 6 cl _ hc rfl
  obtain ⟨n1, n2, n3, n4⟩ := h.gcne hv
  have fin := fun (w1 : World) (h1 : D W0 U0 S0 X0 p i now X sp s w1) => h1.putCl hv c 6 cl { cl with pt := m } (.int .i64 m) hc (by decide) rfl
  rw [hcall] at a0
  rw [hv] at b1
  generalize hN : s.cls.length = N at *
  replace hN := Mr.hid hN
  replace h := Mr.hid h
  go_enter Tryz.func75, Tryz.ntmps75
  go_wp2_with (go_at_call 86; refine C.mono ?_; clear C; rintro e w' ⟨rfl, hw⟩; obtain rfl := hw.symm)
  go_region_held3 (fun w' => w'.cell? ⟨p.bd, 0, none⟩ = some (.pointer (some ⟨p.be, 0, none⟩)) ∧ w'.cell? ⟨p.be, 0, none⟩ = some (.pointer (some ⟨p.bb, 0, none⟩)) ∧ w'.cell? ⟨p.be, 1, none⟩ = some (.pointer (some ⟨p.gt, i * 5, none⟩)) ∧ w'.cell? ⟨p.bb, 1, none⟩ = some (.slice (some ⟨gc, 0, none⟩) N cc) ∧ w'.cell? ⟨p.gt, i * 5 + 2, none⟩ = some (.int .i64 (c : Int))) (go_keep) (fail)
  go_wp2
  go_end0
  exact ⟨rfl, (fin W h.out).drew⟩
end
end Go.Proofs.YtnapnhmmopajfaaGreat.Ma
/-
  THE DEQUE's TASKS: pure; their objects; how they lie.
-/
namespace Go.Proofs.YtnapnhmmopajfaaGreat.Dm
open Go.RowKit Mr Me Ma Gm
set_option linter.unusedVariables false
/-- A task: where it goes on, and what it holds. -/
inductive Dt where
  | push (nx : Nat) (v b : Int)
  | take (nx : Nat) (l t v : Int)
  | steal (nx : Nat) (t v : Int)
def nU (x : Int) : Int := IntKind.u64.wrap x
def rd (ws : List Int) (ad : Nat) : Int := (ws[ad]?).getD 0
def ldA (i : Nat) (now : Int) (ad : Nat) (ws : List Int) : Acc := ⟨now, i, 1, ad, 0, 0, rd ws ad⟩
def stA (i : Nat) (now : Int) (ad : Nat) (x : Int) : Acc := ⟨now, i, 2, ad, 0, x, 0⟩
def swA (i : Nat) (now : Int) (ad : Nat) (old x saw : Int) : Acc := ⟨now, i, 3, ad, old, x, saw⟩
/-- The address of a value's cell. -/
def cel (r : Nat) (k : Int) : Nat := 2 + (k.toNat % r)
abbrev Lw := Option (Int × Int)
abbrev Df := Gm.Ef Dt Lw
def stp (r : Nat) (_ : Bool) (i : Nat) (now : Int) (ws : List Int) (g : Lw) : Dt → Df
  | .push 1 v b => ⟨ws, [ldA i now 1 ws], g, some (.push 2 v (wrap64 (rd ws 1))), none, none⟩
  | .push 2 v b => if (r : Int) ≤ b - wrap64 (rd ws 0) then ⟨ws, [ldA i now 0 ws], g, none, some now, some (4, 0)⟩ else ⟨ws, [ldA i now 0 ws], g, some (.push 3 v b), none, none⟩
  | .push 3 v b => ⟨ws.set (cel r b) (nU v), [stA i now (cel r b) (nU v)], g, some (.push 4 v b), none, none⟩
  | .push _ v b => ⟨ws.set 1 (nU (b + 1)), [stA i now 1 (nU (b + 1))], g, none, some now, some (1, 0)⟩
  | .take 1 l t v => ⟨ws, [ldA i now 1 ws], g, some (.take 2 (wrap64 (rd ws 1) - 1) t v), none, none⟩
  | .take 2 l t v => ⟨ws.set 1 (nU l), [stA i now 1 (nU l)], some (now, l), some (.take 3 l t v), some now, none⟩
  | .take 3 l t v => if l < wrap64 (rd ws 0) then ⟨ws, [ldA i now 0 ws], g, some (.take 4 l (wrap64 (rd ws 0)) v), some now, some (3, 0)⟩ else ⟨ws, [ldA i now 0 ws], g, some (.take 5 l (wrap64 (rd ws 0)) v), none, none⟩
  | .take 4 l t v => ⟨ws.set 1 (nU t), [stA i now 1 (nU t)], none, none, none, none⟩
  | .take 5 l t v => if t < l then ⟨ws, [ldA i now (cel r l) ws], none, none, none, some (2, wrap64 (rd ws (cel r l)))⟩ else ⟨ws, [ldA i now (cel r l) ws], g, some (.take 6 l t (wrap64 (rd ws (cel r l)))), none, none⟩
  | .take 6 l t v => if rd ws 0 = t then ⟨ws.set 0 (t + 1), [swA i now 0 t (t + 1) t], g, some (.take 7 l t v), none, some (2, v)⟩ else ⟨ws, [swA i now 0 t (t + 1) (rd ws 0)], g, some (.take 7 l t v), some now, some (3, 0)⟩
  | .take _ l t v => ⟨ws.set 1 (nU (t + 1)), [stA i now 1 (nU (t + 1))], none, none, none, none⟩
  | .steal 1 t v => ⟨ws, [ldA i now 0 ws], g, some (.steal 2 (wrap64 (rd ws 0)) v), none, none⟩
  | .steal 2 t v => if wrap64 (rd ws 1) - t ≤ 0 then ⟨ws, [ldA i now 1 ws], g, none, some now, some (3, 0)⟩ else ⟨ws, [ldA i now 1 ws], g, some (.steal 3 t v), none, none⟩
  | .steal 3 t v => ⟨ws, [ldA i now (cel r t) ws], g, some (.steal 4 t (wrap64 (rd ws (cel r t)))), none, none⟩
  | .steal _ t v => if rd ws 0 = t then ⟨ws.set 0 (t + 1), [swA i now 0 t (t + 1) t], g, none, some (match g with | some (m, k) => if k = t then m else now | none => now), some (2, v)⟩ else ⟨ws, [swA i now 0 t (t + 1) (rd ws 0)], g, some (.steal 1 t v), none, none⟩
def mk (i : Nat) (op arg data : Int) (g : Lw) : Option Dt :=
  if op = 90 then (if i = 0 then some (.push 1 arg 0) else none)
  else if op = 91 then (if i = 0 then some (.take 1 0 0 0) else none)
  else if op = 92 then some (.steal 1 0 0)
  else none
def dqY (r : Nat) : Gm.Sys Dt Lw := ⟨stp r, mk⟩
theorem stp_la (r : Nat) (fr : Bool) (i : Nat) (now : Int) (ws : List Int) (g : Lw) (k : Dt) : (stp r fr i now ws g k).la.length ≤ 1 := by
  unfold stp
  repeat' split
  all_goals exact Nat.le_refl _
/-! Objects. -/
def fnv (f b : Nat) : Value := .func (.func f) #[.pointer (some ⟨b, 0, none⟩)] #[]
def pushO (nv : Value) (bc : Nat) (v bt : Int) : Obj := .cells #[.nilFunc, nv, .pointer (some ⟨bc, 0, none⟩), .int .i64 v, .int .i64 bt] 132 (0, 0)
def takeO (nv : Value) (bc : Nat) (l t v : Int) : Obj := .cells #[.nilFunc, nv, .pointer (some ⟨bc, 0, none⟩), .int .i64 l, .int .i64 t, .int .i64 v] 134 (0, 0)
def stealO (nv : Value) (bc : Nat) (t v : Int) : Obj := .cells #[.nilFunc, nv, .pointer (some ⟨bc, 0, none⟩), .int .i64 t, .int .i64 v] 136 (0, 0)
def comO (r : Nat) (lw : Option Addr) : Obj := .cells #[.int .i64 (r : Int), .pointer lw] 96 (0, 0)
def lowO (m k : Int) : Obj := .cells #[.int .i64 m, .int .i64 k] 158 (0, 0)
def pushF : Nat → Nat
  | 1 => 48
  | 2 => 61
  | 3 => 73
  | _ => 83
def takeF : Nat → Nat
  | 1 => 49
  | 2 => 62
  | 3 => 77
  | 4 => 88
  | 5 => 89
  | 6 => 97
  | _ => 102
def stealF : Nat → Nat
  | 1 => 50
  | 2 => 63
  | 3 => 78
  | _ => 90
def obj (bc b : Nat) : Dt → Obj
  | .push nx v bt => pushO (fnv (pushF nx) b) bc v bt
  | .take nx l t v => takeO (fnv (takeF nx) b) bc l t v
  | .steal nx t v => stealO (fnv (stealF nx) b) bc t v
def ty : Dt → TypeId
  | .push .. => 100
  | .take .. => 103
  | .steal .. => 105
def lwp (bl : Nat) : Lw → Option Addr
  | none => none
  | some _ => some ⟨bl, 0, none⟩
/-- X with another object at a block. -/
def Xp (X : Nat → Obj → Prop) (b : Nat) (o : Obj) : Nat → Obj → Prop := fun k o' => (k = b ∧ o' = o) ∨ (k ≠ b ∧ X k o')
theorem cell_at {W : World} {b : Nat} {cs : Array Value} {t : TypeId} {fr : Nat × Nat} (h : W.heap[b]? = some (.cells cs t fr)) (k : Nat) : W.cell? ⟨b, k, none⟩ = cs[k]? := by simp [World.cell?, h]
theorem froz_at {W : World} {b : Nat} {cs : Array Value} {t : TypeId} (h : W.heap[b]? = some (.cells cs t (0, 0))) (k : Nat) : W.frozen? ⟨b, k, none⟩ = false := by simp [World.frozen?, h]
/-- How they lie: the room, the block of what the calls share. -/
def At (r bc : Nat) (tk : Nat → Option Dt) (g : Lw) (tv : Nat → Value) (X : Nat → Obj → Prop) : Prop :=
  ∃ (bl : Nat) (bt : Nat → Nat), X bc (comO r (lwp bl g)) ∧ (∀ m k, g = some (m, k) → X bl (lowO m k) ∧ bl ≠ bc) ∧
    (∀ i, tk i = none → tv i = .nilIface) ∧
    (∀ i t, tk i = some t → tv i = .iface (ty t) (.pointer (some ⟨bt i, 0, none⟩)) ∧ X (bt i) (obj bc (bt i) t) ∧ bt i ≠ bc ∧ (g.isSome = true → bt i ≠ bl)) ∧
    (∀ i j t u, tk i = some t → tk j = some u → bt i = bt j → i = j)
/-- The kit's blocks: the map, the box of the receiver, the boxes of the two makers that ask for the owner. -/
def KA (bc cs c1 c2 : Nat) (W : World) (K : Nat → Prop) (km : Nat) : Prop :=
  W.heap[km]? = some (.map #[⟨.int .i64 90, .func (.func 47) #[] #[.pointer (some ⟨c1, 0, none⟩)], 0⟩, ⟨.int .i64 91, .func (.func 47) #[] #[.pointer (some ⟨c2, 0, none⟩)], 1⟩, ⟨.int .i64 92, .func (.func 34) #[] #[.pointer (some ⟨cs, 0, none⟩)], 2⟩] 3) ∧
  W.cell? ⟨cs, 0, none⟩ = some (.pointer (some ⟨bc, 0, none⟩)) ∧ W.cell? ⟨c1, 0, none⟩ = some (.func (.func 30) #[] #[.pointer (some ⟨cs, 0, none⟩)]) ∧ W.cell? ⟨c2, 0, none⟩ = some (.func (.func 32) #[] #[.pointer (some ⟨cs, 0, none⟩)]) ∧ K km ∧ K cs ∧ K c1 ∧ K c2
def dqL (r bc cs c1 c2 : Nat) : Gm.Lay Dt Lw where
  at_ := At r bc
  ka := KA bc cs c1 c2
  idle := fun h i hi => by obtain ⟨bl, bt, _, _, h3, _⟩ := h; exact h3 i hi
  busy := fun h i k hi => by obtain ⟨bl, bt, _, _, _, h4, _⟩ := h; exact ⟨_, _, (h4 i k hi).1⟩
  kept := fun h hk => by
    obtain ⟨h1, h2, h3, h4, k1, k2, k3, k4⟩ := h
    exact ⟨(hk _ k1).trans h1, (World.cell?_of_block (hk _ k2)).trans h2, (World.cell?_of_block (hk _ k3)).trans h3, (World.cell?_of_block (hk _ k4)).trans h4, k1, k2, k3, k4⟩
section
variable {W0 : World} {U0 S0 X0 : Nat → Prop} {p : Ph} {i : Nat} {now : Int} {X : Nat → Obj → Prop} {s : Ss} {W : World} {sp : Bool}
/-- The objects beside it are some of those. -/
theorem dweak (h : D W0 U0 S0 X0 p i now X sp s W) {X' : Nat → Obj → Prop} (hX : ∀ k o, X' k o → X k o) : D W0 U0 S0 X0 p i now X' sp s W := by
  obtain ⟨U, S, vl, va, hx, hm⟩ := h
  exact ⟨U, S, vl, va, fun k o hk => hx k o (hX k o hk), hm⟩
theorem dself (h : D W0 U0 S0 X0 p i now X sp s W) {b : Nat} {o : Obj} (hX : X b o) : D W0 U0 S0 X0 p i now (Xp X b o) sp s W :=
  dweak h (fun k o' hk => by rcases hk with ⟨rfl, rfl⟩ | ⟨_, hk⟩; exact hX; exact hk)
theorem dput {b : Nat} {cs : Array Value} {t : TypeId} (h : D W0 U0 S0 X0 p i now (Xp X b (.cells cs t (0, 0))) sp s W) (j : Nat) (u : Value) (h0 : X0 b ∨ W0.heap.size ≤ b) : D W0 U0 S0 X0 p i now (Xp X b (.cells (cs.setIfInBounds j u) t (0, 0))) sp s (W.setCell ⟨b, j, none⟩ u) :=
  D.put h (.inl ⟨rfl, rfl⟩) u h0 (fun k o hk => by
    rcases hk with ⟨rfl, rfl⟩ | ⟨hne, hk⟩
    · exact .inl ⟨rfl, rfl⟩
    · exact .inr ⟨hne, .inr ⟨hne, hk⟩⟩)
/-- A new object. -/
theorem dnew (h : D W0 U0 S0 X0 p i now X sp s W) (o : Obj) : D W0 U0 S0 X0 p i now (fun k o' => X k o' ∨ (k = W.heap.size ∧ o' = o)) sp s (W.alloc o) := by
  have h' := h
  obtain ⟨U, S, vl, va, hx, hm, hd, hU, hS0, hU0, hU1, hf⟩ := h
  have hs := hf.size
  have kk : ∀ k, U k → (W.alloc o).heap[k]? = W.heap[k]? := fun k hk => Below.heap_alloc _ _ _ (hm.ul k hk)
  have hl := hm.ul
  have hbd := hd.ltd
  have hbe := hd.lte
  refine ⟨fun k => U k ∨ k = W.heap.size, S, vl, va, ?_, hm.kept kk (fun k hk => .inl hk) (fun k hk => ?_), hd.kept (Below.heap_alloc _ _ _ hbd) (Below.heap_alloc _ _ _ hbe), ⟨?_, ?_, hU.2.2⟩, hS0, ?_, fun k hk => .inl (hU1 k hk), hf.alloc o⟩
  · rintro k o' (hk | ⟨rfl, rfl⟩)
    · obtain ⟨x1, x2, x3⟩ := hx k o' hk
      exact ⟨(kk k x2).trans x1, .inl x2, x3⟩
    · refine ⟨heap_alloc_new W o', .inr rfl, fun hS => ?_, fun e => ?_, fun e => ?_, fun e => ?_, fun e => ?_, fun e => ?_⟩
      · have := hl _ (hm.su _ hS); omega
      · have := hm.lt; omega
      · have := hm.ltb; omega
      · have := (hm.thr.lt p.gt rfl).2; omega
      · have := (hm.cal.lt _ e).2; omega
      · have := (hm.shf.lt _ e).2; omega
  · rcases hk with hk | rfl
    · have := hl k hk; simp; omega
    · simp
  · rintro (hk | hk)
    · exact hU.1 hk
    · omega
  · rintro (hk | hk)
    · exact hU.2.1 hk
    · omega
  · rintro k (hk | rfl)
    · exact hU0 k hk
    · exact .inr hs
end
end Go.Proofs.YtnapnhmmopajfaaGreat.Dm
