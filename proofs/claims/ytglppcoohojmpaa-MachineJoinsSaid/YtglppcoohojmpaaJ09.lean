import Derived.Test.YtglppcoohojmpaaJ08
/-
  Machine.Move by its cases, whatever the kit.
-/
namespace Go.Proofs.Ytglppcoohojmpaa.Ma
open Go.RowKit Mr Me
section
variable {W : World} {U S : Nat → Prop} {q : Ph} {s : Ss} {X : Nat → Obj → Prop} {vl va : Value}
/-- The world behind the count. -/
def Wn (W : World) (b : Nat) (n : Int) (o : Obj) : World := (W.setCell ⟨b, 2, none⟩ (.int .i64 n)).alloc o
theorem Mch.setN (h : Mch W U S q vl va s X) (n : Int) (o : Obj) : Mch (Wn W q.b n o) U S q vl va { s with n := n } X ∧ Fr W (Wn W q.b n o) U ∧ W.heap.size < (Wn W q.b n o).heap.size := by
  obtain ⟨hx, hm⟩ := h
  have ho : ∀ k, k ≠ q.b → (W.setCell ⟨q.b, 2, none⟩ (.int .i64 n)).heap[k]? = W.heap[k]? := fun k hne => Below.heap_setCell _ _ _ k hne
  have hs : (W.setCell ⟨q.b, 2, none⟩ (.int .i64 n)).heap.size = W.heap.size := by simp
  have h1 : Mch (W.setCell ⟨q.b, 2, none⟩ (.int .i64 n)) U S q vl va { s with n := n } X := by
    refine ⟨fun k o hk => ?_, ⟨by rw [setBlk hm.blk]; rfl, (ho _ hm.bne.symm).trans hm.bk, hm.mem.kept (fun k hs' _ => ho k (fun e => hm.ub.2 (e ▸ hs'))), hm.thr.setCell _ _ (not_row hm.blk hm.thr (by decide)), hm.cal.setCell _ _ (not_row hm.blk hm.cal (by decide)), hm.shf.setCell _ _ (not_row hm.blk hm.shf (by decide)), hm.ub, hm.ubb, hm.su, fun k hk => by rw [hs]; exact hm.ul k hk⟩⟩
    obtain ⟨x1, x2, x3, x4, x5⟩ := hx k o hk
    exact ⟨(ho k x4).trans x1, x2, x3, x4, x5⟩
  refine ⟨h1.below ((Below.refl _ _).alloc (Nat.le_refl _) o), ((Fr.refl _ _).setCell _ _ (.inl hm.ub.1)).alloc o, by unfold Wn; simp⟩
section
variable (th op arg data : Int)
set_option maxRecDepth 100000 in
theorem mv_full (h : Mch W U S q vl va s X) (hn : 65536 ≤ s.n) :
    Calls Try.prog 14 #[.pointer (some ⟨q.b, 0, none⟩), .agg #[.int .i64 th, .int .i64 op, .int .i64 arg, .int .i64 data]] W fun e w' => e = .returned (.bool false) ∧ Below W.heap.size W w' := by
  have C := fun o => made_yes (h.below ((Below.refl _ _).alloc (Nat.le_refl _) o))
  have m2 := fun o => (h.below ((Below.refl _ _).alloc (Nat.le_refl _) o)).2.m2
  have hB := fun o => (Below.refl W.heap.size W).alloc (Nat.le_refl _) o
  have hd : decide (65536 ≤ s.n) = true := by simpa using hn
  clear h
  go_enter Try.func14, Try.ntmps14
  go_wp2_with (go_at_call 36; refine (C _).mono ?_; clear C; rintro e w' ⟨rfl, hw⟩; obtain rfl := hw.symm)
  go_ret
  exact ⟨rfl, hB _⟩
set_option maxRecDepth 100000 in
set_option maxHeartbeats 1000000 in
theorem mv_none (h : Mch W U S q vl va s X) (hn : s.n < 65536) (h0 : 0 ≤ s.n) (hth : th < 0 ∨ (q.nt : Int) ≤ th) :
    Calls Try.prog 14 #[.pointer (some ⟨q.b, 0, none⟩), .agg #[.int .i64 th, .int .i64 op, .int .i64 arg, .int .i64 data]] W fun e w' => e = .returned (.bool false) ∧ w' = Wn W q.b (s.n + 1) (mvO th op arg data) := by
  have C := fun o => made_yes (h.below ((Below.refl _ _).alloc (Nat.le_refl _) o))
  have m2 := fun o => (h.below ((Below.refl _ _).alloc (Nat.le_refl _) o)).2.m2
  have mz := fun o => (h.below ((Below.refl _ _).alloc (Nat.le_refl _) o)).2.mz 2
  have hN := (h.setN (s.n + 1) (mvO th op arg data)).1
  have H := hasT_no hN th hth
  have hd : decide (65536 ≤ s.n) = false := by simp; omega
  have hlt := h.2.lt
  have hne : W.heap.size ≠ q.b := by omega
  have hne' : q.b ≠ W.heap.size := by omega
  clear h
  replace hN := Mr.hid hN
  unfold Wn mvO at H
  clear hth
  go_enter Try.func14, Try.ntmps14
  go_wp2_with (first | (go_at_call 36; refine (C _).mono ?_; clear C; rintro e w' ⟨rfl, hw⟩; obtain rfl := hw.symm) | (go_at_call 37; refine H.mono ?_; clear H; rintro e w' ⟨rfl, hw⟩; obtain rfl := hw.symm))
  go_ret
  exact ⟨rfl, rfl⟩
end
set_option maxRecDepth 100000 in
set_option maxHeartbeats 1000000 in
theorem mv_step (h : Mch W U S q vl va s X) (hn : s.n < 65536) (h0 : 0 ≤ s.n) (i : Nat) (t : Th) (ht : s.ths[i]? = some t) (arg data : Int) {r : Bool} {R : World → Prop} (ST : Calls Try.prog 38 #[.pointer (some ⟨q.b, 0, none⟩), .int .i64 (i : Int), .int .i64 s.n] (Wn W q.b (s.n + 1) (mvO i 0 arg data)) fun e w' => e = .returned (.bool r) ∧ R w') :
    Calls Try.prog 14 #[.pointer (some ⟨q.b, 0, none⟩), .agg #[.int .i64 (i : Int), .int .i64 0, .int .i64 arg, .int .i64 data]] W fun e w' => e = .returned (.bool r) ∧ R w' := by
  have C := fun o => made_yes (h.below ((Below.refl _ _).alloc (Nat.le_refl _) o))
  have m2 := fun o => (h.below ((Below.refl _ _).alloc (Nat.le_refl _) o)).2.m2
  have mz := fun o => (h.below ((Below.refl _ _).alloc (Nat.le_refl _) o)).2.mz 2
  have hN := (h.setN (s.n + 1) (mvO i 0 arg data)).1
  have hi : i < q.nt := by rw [← h.nt]; exact (List.getElem?_eq_some_iff.1 ht).1
  have H := hasT_yes hN i hi
  have hd : decide (65536 ≤ s.n) = false := by simp; omega
  have hlt := h.2.lt
  have hne : W.heap.size ≠ q.b := by omega
  have hne' : q.b ≠ W.heap.size := by omega
  clear h ht
  replace hN := Mr.hid hN
  unfold Wn mvO at H ST
  go_enter Try.func14, Try.ntmps14
  go_wp2_with (first | (go_at_call 36; refine (C _).mono ?_; clear C; rintro e w' ⟨rfl, hw⟩; obtain rfl := hw.symm) | (go_at_call 37; refine H.mono ?_; clear H; rintro e w' ⟨rfl, hw⟩; obtain rfl := hw.symm) | (go_at_call 38; refine ST.mono ?_; clear ST; rintro e w1 ⟨rfl, h1⟩))
  go_ret
  exact ⟨rfl, h1⟩
set_option maxRecDepth 100000 in
set_option maxHeartbeats 1000000 in
theorem mv_busy (h : Mch W U S q vl va s X) (hn : s.n < 65536) (h0 : 0 ≤ s.n) (i : Nat) (t : Th) (ht : s.ths[i]? = some t) (op arg data : Int) (hop : op ≠ 0) (ty : TypeId) (v : Value) (htv : t.tv = .iface ty v) :
    Calls Try.prog 14 #[.pointer (some ⟨q.b, 0, none⟩), .agg #[.int .i64 (i : Int), .int .i64 op, .int .i64 arg, .int .i64 data]] W fun e w' => e = .returned (.bool false) ∧ w' = Wn W q.b (s.n + 1) (mvO i op arg data) := by
  have C := fun o => made_yes (h.below ((Below.refl _ _).alloc (Nat.le_refl _) o))
  have m2 := fun o => (h.below ((Below.refl _ _).alloc (Nat.le_refl _) o)).2.m2
  have mz := fun o => (h.below ((Below.refl _ _).alloc (Nat.le_refl _) o)).2.mz 2
  have hN := (h.setN (s.n + 1) (mvO i op arg data)).1
  have hi : i < q.nt := by rw [← h.nt]; exact (List.getElem?_eq_some_iff.1 ht).1
  have H := hasT_yes hN i hi
  have hd : decide (65536 ≤ s.n) = false := by simp; omega
  have hlt := h.2.lt
  have hne : W.heap.size ≠ q.b := by omega
  have hne' : q.b ≠ W.heap.size := by omega
  have B := busy_yes hN i t ht ty v htv
  have hop' : (op == 0) = false := by simpa using hop
  clear h ht
  replace hN := Mr.hid hN
  unfold Wn mvO at H B
  go_enter Try.func14, Try.ntmps14
  go_wp2_with (first | (go_at_call 36; refine (C _).mono ?_; clear C; rintro e w' ⟨rfl, hw⟩; obtain rfl := hw.symm) | (go_at_call 37; refine H.mono ?_; clear H; rintro e w' ⟨rfl, hw⟩; obtain rfl := hw.symm) | (go_at_call 27; refine B.mono ?_; clear B; rintro e w1 ⟨rfl, hw⟩; obtain rfl := hw.symm))
  go_ret
  exact ⟨rfl, rfl⟩
set_option maxRecDepth 100000 in
set_option maxHeartbeats 1000000 in
theorem mv_begin (h : Mch W U S q vl va s X) (hn : s.n < 65536) (h0 : 0 ≤ s.n) (i : Nat) (t : Th) (ht : s.ths[i]? = some t) (op arg data : Int) (hop : op ≠ 0) (htv : t.tv = .nilIface) {r : Bool} {R : World → Prop} (BG : Calls Try.prog 39 #[.pointer (some ⟨q.b, 0, none⟩), .agg #[.int .i64 (i : Int), .int .i64 op, .int .i64 arg, .int .i64 data], .int .i64 s.n] (Wn W q.b (s.n + 1) (mvO i op arg data)) fun e w' => e = .returned (.bool r) ∧ R w') :
    Calls Try.prog 14 #[.pointer (some ⟨q.b, 0, none⟩), .agg #[.int .i64 (i : Int), .int .i64 op, .int .i64 arg, .int .i64 data]] W fun e w' => e = .returned (.bool r) ∧ R w' := by
  have C := fun o => made_yes (h.below ((Below.refl _ _).alloc (Nat.le_refl _) o))
  have m2 := fun o => (h.below ((Below.refl _ _).alloc (Nat.le_refl _) o)).2.m2
  have mz := fun o => (h.below ((Below.refl _ _).alloc (Nat.le_refl _) o)).2.mz 2
  have hN := (h.setN (s.n + 1) (mvO i op arg data)).1
  have hi : i < q.nt := by rw [← h.nt]; exact (List.getElem?_eq_some_iff.1 ht).1
  have H := hasT_yes hN i hi
  have hd : decide (65536 ≤ s.n) = false := by simp; omega
  have hlt := h.2.lt
  have hne : W.heap.size ≠ q.b := by omega
  have hne' : q.b ≠ W.heap.size := by omega
  have B := busy_no hN i t ht htv
  have hop' : (op == 0) = false := by simpa using hop
  clear h ht
  replace hN := Mr.hid hN
  unfold Wn mvO at H B BG
  go_enter Try.func14, Try.ntmps14
  go_wp2_with (first | (go_at_call 36; refine (C _).mono ?_; clear C; rintro e w' ⟨rfl, hw⟩; obtain rfl := hw.symm) | (go_at_call 37; refine H.mono ?_; clear H; rintro e w' ⟨rfl, hw⟩; obtain rfl := hw.symm) | (go_at_call 27; refine B.mono ?_; clear B; rintro e w1 ⟨rfl, hw⟩; obtain rfl := hw.symm) | (go_at_call 39; refine BG.mono ?_; clear BG; rintro e w1 ⟨rfl, h1⟩))
  go_ret
  exact ⟨rfl, h1⟩
end
end Go.Proofs.Ytglppcoohojmpaa.Ma
/-
  THE MACHINE with its own calls, without the model: what a move makes of it; and how it lies in the world.
-/
namespace Go.Proofs.Ytglppcoohojmpaa.Ma
open Go.RowKit Mr Me
/-- What a thread is about. -/
inductive PT where
  | idle
  | look (ad : Nat)
  | bump (ad : Nat) (x : Int) (ld : Bool)
def PT.tv : PT → Nat → Value
  | .idle, _ => .nilIface
  | .look _, bt => .iface 104 (.pointer (some ⟨bt, 0, none⟩))
  | .bump _ _ _, bt => .iface 108 (.pointer (some ⟨bt, 0, none⟩))
def PT.obj : PT → Option Obj
  | .idle => none
  | .look ad => some (lookO ad)
  | .bump ad x ld => some (bumpO ad x ld)
def PT.busy : PT → Bool
  | .idle => false
  | _ => true
def PT.ok : PT → Nat → Prop
  | .idle, _ => True
  | .look ad, n => ad < n
  | .bump ad _ _, n => ad < n
structure Pt where
  tk : PT
  fr : Bool
  call : Int
def Pt.th (t : Pt) (bt : Nat) : Th := ⟨t.tk.tv bt, t.fr, t.call, 0, 0⟩
structure Pm where
  pts : List Pt
  n : Nat
  cls : List Cl
  ws : List Int
  lg : List Acc
/-- The call c ends at now with the word x. -/
def setC (cls : List Cl) (c : Nat) (now : Int) (x : Int) : List Cl := match cls[c]? with
  | some cl => cls.set c { cl with pt := now, fin := now, ak := 2, av := wrap64 x }
  | none => cls
def up (x : Int) : Int := IntKind.u64.wrap (x + 1)
def Pm.step (P : Pm) (i : Nat) (t : Pt) (now : Int) : Pm × Bool := match t.tk with
  | .idle => (P, false)
  | .look ad => ({ P with lg := P.lg ++ [⟨now, i, 1, ad, 0, 0, P.ws[ad]?.getD 0⟩], cls := setC P.cls t.call.toNat now (P.ws[ad]?.getD 0), pts := P.pts.set i ⟨.idle, false, t.call⟩ }, true)
  | .bump ad _ false => ({ P with lg := P.lg ++ [⟨now, i, 1, ad, 0, 0, P.ws[ad]?.getD 0⟩], pts := P.pts.set i ⟨.bump ad (P.ws[ad]?.getD 0) true, false, t.call⟩ }, true)
  | .bump ad x true => if P.ws[ad]?.getD 0 = x then
      ({ P with ws := P.ws.set ad (up x), lg := P.lg ++ [⟨now, i, 3, ad, x, up x, x⟩], cls := setC P.cls t.call.toNat now x, pts := P.pts.set i ⟨.idle, false, t.call⟩ }, true)
    else ({ P with lg := P.lg ++ [⟨now, i, 3, ad, x, up x, P.ws[ad]?.getD 0⟩], pts := P.pts.set i ⟨.bump ad x false, false, t.call⟩ }, true)
def Pm.begins (P : Pm) (i : Nat) (op arg data now : Int) : Pm × Bool :=
  if (op = 1 ∨ op = 2) ∧ 0 ≤ arg ∧ arg < P.ws.length then
    ({ P with cls := P.cls ++ [⟨i, op, arg, data, now, -1, -1, 0, 0⟩], pts := P.pts.set i ⟨if op = 1 then .look arg.toNat else .bump arg.toNat 0 false, true, (P.cls.length : Int)⟩ }, true)
  else (P, false)
def Pm.count (P : Pm) : Pm := { P with n := P.n + 1 }
def Pm.move (P : Pm) (th op arg data : Int) : Pm × Bool :=
  if 65536 ≤ P.n then (P, false)
  else if 0 ≤ th ∧ th < P.pts.length then
    match P.pts[th.toNat]? with
    | none => (P.count, false)
    | some t => if op = 0 then P.count.step th.toNat t P.n else if t.tk.busy = true then (P.count, false) else P.count.begins th.toNat op arg data P.n
  else (P.count, false)

def thsOf (pts : List Pt) (bt : Nat → Nat) : List Th := pts.mapIdx (fun i t => t.th (bt i))
theorem thsOf_get (pts : List Pt) (bt : Nat → Nat) (i : Nat) : (thsOf pts bt)[i]? = (pts[i]?).map (fun t => t.th (bt i)) := by simp [thsOf]
theorem thsOf_length (pts : List Pt) (bt : Nat → Nat) : (thsOf pts bt).length = pts.length := by simp [thsOf]
theorem thsOf_set (pts : List Pt) (bt : Nat → Nat) (i : Nat) (t' : Pt) (b : Nat) : (thsOf pts bt).set i (t'.th b) = thsOf (pts.set i t') (fun k => if k = i then b else bt k) := by
  apply List.ext_getElem?
  intro j
  rw [List.getElem?_set, thsOf_get, thsOf_get, List.getElem?_set, thsOf_length]
  by_cases hj : i = j
  · subst hj
    simp only [if_true]
    split <;> simp
  · simp only [if_neg hj, if_neg (fun e : j = i => hj e.symm)]
/-- The tasks' objects. -/
def Xof (pts : List Pt) (bt : Nat → Nat) : Nat → Obj → Prop := fun k o => ∃ i t, pts[i]? = some t ∧ k = bt i ∧ t.tk.obj = some o
def Inj (pts : List Pt) (bt : Nat → Nat) : Prop := ∀ i j t u, pts[i]? = some t → pts[j]? = some u → t.tk.busy = true → u.tk.busy = true → bt i = bt j → i = j
structure Wf (P : Pm) : Prop where
  n : P.n ≤ 65536
  lg : P.lg.length ≤ P.n
  cls : P.cls.length ≤ P.n
  th : ∀ (i : Nat) (t : Pt), P.pts[i]? = some t → t.tk.ok P.ws.length ∧ (t.tk.busy = true → ∃ c : Nat, t.call = c ∧ c < P.cls.length)
def R (W : World) (U K : Nat → Prop) (q : Ph) (km s1 a1 s2 a2 : Nat) (P : Pm) : Prop :=
  ∃ S vl va vc mv ah bt, Mch W U S { q with vc := vc } vl va ⟨thsOf P.pts bt, P.n, P.cls, [], P.ws, mv, P.lg, ah⟩ (Xof P.pts bt) ∧ Inj P.pts bt ∧ ah.length ≤ P.lg.length ∧ Kt W K km P.ws.length s1 a1 s2 a2 ∧ (∀ k, K k → ¬ U k ∧ k < W.heap.size) ∧ Wf P ∧ q.vk = .map (some km)
theorem setC_length (cls : List Cl) (c : Nat) (now x : Int) : (setC cls c now x).length = cls.length := by unfold setC; split <;> simp
theorem obj_busy (t : PT) (o : Obj) (h : t.obj = some o) : t.busy = true := by cases t <;> first | rfl | cases h
theorem Wf.count {P : Pm} (h : Wf P) (hn : P.n < 65536) : Wf P.count := ⟨hn, Nat.le_succ_of_le h.lg, Nat.le_succ_of_le h.cls, h.th⟩
end Go.Proofs.Ytglppcoohojmpaa.Ma
