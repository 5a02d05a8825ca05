import Derived.Test.YtnbibkohgppjnaaGreatJ13
import Derived.Test.YtnbibkohgppjnaaGreatJ16
import Derived.Test.YtnbibkohgppjnaaGreatJ35
import Derived.Sort.LoopGhostIn
import Derived.Deep.RegionHeld3
set_option linter.unusedVariables false
set_option linter.unusedSimpArgs false
set_option maxRecDepth 100000
namespace Go.Proofs.YtnbibkohgppjnaaGreat.Ws
open Go.RowKit Mr Md Wt
attribute [local go_sem] Oper.semAt_some
structure Ow (W : World) (bp ba bs B : Nat) (T : Nat → Prop) (vc vn mv : Value) (ah : Nat → Nat) (en : Nat) (sc : List Cq) (P : Nat) (v0 v1 v2 v3 v4 : Value) (x : Ct) : Prop where
 hp : W.heap[bp]? = some (.cells #[.pointer (some ⟨bs, 0, none⟩)] 46 (0, 0))
 ha : W.heap[ba]? = some (stO P v0 v1 v2 v3 v4)
 sb : W.heap[bs]? = some (sbO vc vn ah en mv)
 cl : Sl W T 9 vc sc.length (cqs sc)
 ct : CtAt W T v0 v1 v2 v3 v4 x
 sz : B ≤ W.heap.size
theorem Ow.below {W W' : World} {bp ba bs B : Nat} {T : Nat → Prop} {vc vn mv : Value} {ah : Nat → Nat} {en : Nat} {sc : List Cq} {P : Nat} {v0 v1 v2 v3 v4 : Value} {x : Ct} (h : Ow W bp ba bs B T vc vn mv ah en sc P v0 v1 v2 v3 v4 x) (hB : Below W.heap.size W W') : Ow W' bp ba bs B T vc vn mv ah en sc P v0 v1 v2 v3 v4 x :=
 ⟨(hB.block _ (Array.getElem?_eq_some_iff.1 h.hp).1).trans h.hp, (hB.block _ (Array.getElem?_eq_some_iff.1 h.ha).1).trans h.ha, (hB.block _ (Array.getElem?_eq_some_iff.1 h.sb).1).trans h.sb, h.cl.below hB, h.ct.below hB, Nat.le_trans h.sz hB.size⟩
theorem few_in {x : Ct} (h : Few 8 x) : CtIn 225000000000000 x := by
 unfold Few at h
 exact ⟨by omega, by omega, by omega, by omega, by omega⟩
def Hd (B : Nat) (sc : List Cq) (P : Nat) (x : Ct) (i : Nat) (args : Array Value) (W : World) : Prop :=
 ∃ u0 u1 u2 u3 u4, args = #[.int .i64 (i : Int), .agg #[gv (P ||| 2 ^ i), u0, u1, u2, u3, u4]] ∧ CtAt W (fun k => B ≤ k) u0 u1 u2 u3 u4 (alw x (cd sc i)).1
set_option maxHeartbeats 8000000 in
theorem iter_hands (n : Nat) (hn : 1 ≤ n) {bp ba bs B : Nat} {T : Nat → Prop} {vc vn mv : Value} {ah : Nat → Nat} {en : Nat} {sc : List Cq} {P : Nat} {v0 v1 v2 v3 v4 : Value} {x : Ct} (hP : P < 256) (hsc : sc.length ≤ 8) (hah : ∀ i, ah i < 256) (hAh : ∀ i, i < sc.length → inB8 (ah i) P = ahmB sc P i) (hob : ∀ c ∈ sc, obj c.op ≠ 0) (hm : May x) (hF : Few 8 x) :
  HandsR n Tryz.prog 49 #[.pointer (some ⟨bp, 0, none⟩), .pointer (some ⟨ba, 0, none⟩)] sc.length (fun i => (spc sc).ok P x i) (Hd B sc P x) (fun W => Ow W bp ba bs B T vc vn mv ah en sc P v0 v1 v2 v3 v4 x) := by
 rintro l C X W hCg hXg hKn hskip hC0 hY
 have hO := hKn 0 W hC0
 obtain ⟨ac, cc, hvc, hcc⟩ := hO.cl.form
 subst hvc
 obtain ⟨a0, c0, rfl, h0⟩ := hO.ct.cell.form
 obtain ⟨a1, c1, rfl, h1⟩ := hO.ct.stack.form
 obtain ⟨a2, c2, rfl, h2⟩ := hO.ct.queue.form
 obtain ⟨a3, c3, rfl, h3⟩ := hO.ct.set.form
 obtain ⟨a4, c4, rfl, h4⟩ := hO.ct.table.form
 have cp : W.cell? ⟨bp, 0, none⟩ = some (.pointer (some ⟨bs, 0, none⟩)) := by simp [World.cell?, hO.hp]
 obtain ⟨sl, s0, _, _, _⟩ := sb_cells hO.sb
 refine callsIn_of_wp Tryz.func49 rfl trivial ?_ rfl
 simp only [Tryz.ntmps49, List.size_toArray, List.length_cons, List.length_nil, Nat.reduceAdd, Nat.reduceSub, Array.replicate_succ, Array.replicate_zero, List.push_toArray, List.append_toArray, List.nil_append, List.cons_append]
 gi_wp2
 gi_loopg [14] sc.length (fun gk s14 wr => ∃ i : Nat, s14 = .int .i64 (i : Int) ∧ i + gk = sc.length ∧ C i wr)
 case atStart => exact ⟨0, rfl, by omega, hC0⟩
 case round =>
  obtain ⟨i, rfl, hi, hC⟩ := hrel
  clear cp s0 sl hO
  have hO := hKn i wr hC
  by_cases hin : i < sc.length
  ·obtain ⟨c, hc⟩ : ∃ c, sc[i]? = some c := ⟨_, List.getElem?_eq_getElem hin⟩
   have hcd : cd sc i = c := by simp [cd, hc]
   obtain ⟨bc, oc, rfl, A9⟩ := call_at hO.cl hc
   have cp : wr.cell? ⟨bp, 0, none⟩ = some (.pointer (some ⟨bs, 0, none⟩)) := by simp [World.cell?, hO.hp]
   obtain ⟨al, p0, p1, p2, p3, p4, p5⟩ := st_cells hO.ha
   have sa := sb_ah hO.sb i (by omega)
   have hsk := hskip i wr hin
   have qi : (0 : Int) ≤ (i : Int) := by omega
   have qj : (i : Int) < (sc.length : Int) := by omega
   have qk : (i : Int) < 8 := by omega
   obtain ⟨k0, k1, k2, k3, k4, k5, k6, k7, k8, k9⟩ := A9
   replace hC := Mr.hid hC
   replace hKn := Mr.hid hKn
   replace hsk := Mr.hid hsk
   replace hskip := Mr.hid hskip
   replace hY := Mr.hid hY
   replace hCg := Mr.hid hCg
   replace hXg := Mr.hid hXg
   replace hO := Mr.hid hO
   replace hAh := Mr.hid hAh
   replace hob := Mr.hid hob
   have B2 : Below wr.heap.size wr (wr.alloc (cqO c)) := (Below.refl _ _).alloc (Nat.le_refl _) _
   have q8 : wr.heap.size < (wr.alloc (cqO c)).heap.size := by simp
   have bc9 := new_at wr (cqO c) _ rfl
   have bpl : bp < wr.heap.size := (Array.getElem?_eq_some_iff.1 hO.out.hp).1
   have bsl : bs < wr.heap.size := (Array.getElem?_eq_some_iff.1 hO.out.sb).1
   gi_wp2
   generalize hW2 : wr.alloc _ = W2
   have eW2 : W2 = wr.alloc (cqO c) := hW2.symm
   clear hW2
   rw [← eW2] at B2 bc9 q8
   clear eW2
   replace cp := (B2.cell (p := ⟨bp, 0, none⟩) bpl).trans cp
   replace p0 := (B2.cell (p := ⟨ba, 0, none⟩) al).trans p0
   replace sa := (B2.cell (p := ⟨bs, 2 + i, none⟩) bsl).trans sa
   have hO2 := Mr.hid (hO.out.below B2)
   have hC2 := Mr.hid (hCg.out i _ _ hC.out B2)
   have hC0i := hC
   clear p1 p2 p3 p4 p5 k0 k1 k2 k3 k4 k5 k6 k7 k8 k9 hO hC
   obtain ⟨_, p1, p2, p3, p4, p5⟩ := (st_cells hO2.out.ha).2
   obtain ⟨k1, k2, k3, k4, k5, k6, k7, k8, k9⟩ := cq_cells bc9
   have CH := fun W' => Mr.hid (has_any P i hP (by omega) W')
   have CW := fun W' => Mr.hid (within_any (ah i) P (hah i) hP W')
   by_cases hb : P.testBit i = true
   ·refine wpIn_wide.2 ?_
    rw [hb] at CH
    refine wp_region_held_drew (S := (fun w' => w'.cell? ⟨bp, 0, none⟩ = some (.pointer (some ⟨bs, 0, none⟩)) ∧ w'.cell? ⟨ba, 0, none⟩ = some (.int .u64 (P : Int)) ∧ w'.cell? ⟨bs, 2 + i, none⟩ = some (.int .u64 (ah i : Int)))) (by kernel_rfl) ⟨cp, p0, sa⟩ (fun hS => ?_)
    try simp only [Act.put, LA, LB, LC, LD, LE, LF]
    refine wpAnyH_take (i := 0) (v := .pointer (some ⟨ba, 0, none⟩)) rfl (by kernel_rfl) (by kernel_rfl) (by kernel_rfl) (fun _ _ _ h => h) (Or.inl ⟨by kernel_rfl, fun w' hw => ?y0⟩) hS ?_
    case y0 =>
     clear hS
     obtain ⟨hw0, hw1, hw2⟩ := hw
     go_simp
    try simp only [Act.put, LA, LB, LC, LD, LE, LF]
    refine wpAnyH_take (i := 1) (v := .int .u64 (P : Int)) rfl (by kernel_rfl) (by kernel_rfl) (by kernel_rfl) (fun _ _ _ h => h) (Or.inl ⟨by kernel_rfl, fun w' hw => ?y1⟩) hS ?_
    case y1 =>
     clear hS
     obtain ⟨hw0, hw1, hw2⟩ := hw
     go_simp
    try simp only [Act.put, LA, LB, LC, LD, LE, LF]
    refine wpAnyH_take (i := 2) (v := .int .i64 (i : Int)) rfl (by kernel_rfl) (by kernel_rfl) (by kernel_rfl) (fun _ _ _ h => h) (Or.inl ⟨by kernel_rfl, fun w' hw => ?y2⟩) hS ?_
    case y2 =>
     clear hS
     obtain ⟨hw0, hw1, hw2⟩ := hw
     go_simp
    try simp only [Act.put, LA, LB, LC, LD, LE, LF]
    refine wpAnyH_ready (rs := [3]) (by kernel_rfl) (by simp) ?_
    refine AllReadyH.cons rfl (fun K hK => ?_) AllReadyH.nil
    try simp only [Act.put, LA, LB, LC, LD, LE, LF]
    go_simp
    go_at_call 50; refine (CH _).out.mono ?_; rintro e w3 ⟨rfl, rfl⟩
    try (go_wp2_with fail)
    refine hK.out _ _ (⟨cp, p0, sa⟩) (fun hS => ?_)
    clear hK K
    try simp only [Act.put, LA, LB, LC, LD, LE, LF]
    refine wpAnyH_take (i := 4) (v := .bool true) rfl (by kernel_rfl) (by kernel_rfl) (by kernel_rfl) (fun _ _ _ h => h) (Or.inl ⟨by kernel_rfl, fun w' hw => ?y4⟩) hS ?_
    case y4 =>
     clear hS
     obtain ⟨hw0, hw1, hw2⟩ := hw
     go_simp
    try simp only [Act.put, LA, LB, LC, LD, LE, LF]
    refine wpAnyH_take (i := 5) (v := undef) rfl (by kernel_rfl) (by kernel_rfl) (by kernel_rfl) (fun _ _ _ h => h) (Or.inr ⟨by kernel_rfl, rfl⟩) hS ?_
    try simp only [Act.put, LA, LB, LC, LD, LE, LF]
    refine wpAnyH_take (i := 6) (v := undef) rfl (by kernel_rfl) (by kernel_rfl) (by kernel_rfl) (fun _ _ _ h => h) (Or.inr ⟨by kernel_rfl, rfl⟩) hS ?_
    try simp only [Act.put, LA, LB, LC, LD, LE, LF]
    refine wpAnyH_take (i := 7) (v := undef) rfl (by kernel_rfl) (by kernel_rfl) (by kernel_rfl) (fun _ _ _ h => h) (Or.inr ⟨by kernel_rfl, rfl⟩) hS ?_
    try simp only [Act.put, LA, LB, LC, LD, LE, LF]
    refine wpAnyH_take (i := 8) (v := undef) rfl (by kernel_rfl) (by kernel_rfl) (by kernel_rfl) (fun _ _ _ h => h) (Or.inr ⟨by kernel_rfl, rfl⟩) hS ?_
    try simp only [Act.put, LA, LB, LC, LD, LE, LF]
    refine wpAnyH_take (i := 9) (v := undef) rfl (by kernel_rfl) (by kernel_rfl) (by kernel_rfl) (fun _ _ _ h => h) (Or.inr ⟨by kernel_rfl, rfl⟩) hS ?_
    try simp only [Act.put, LA, LB, LC, LD, LE, LF]
    refine wpAnyH_take (i := 10) (v := undef) rfl (by kernel_rfl) (by kernel_rfl) (by kernel_rfl) (fun _ _ _ h => h) (Or.inr ⟨by kernel_rfl, rfl⟩) hS ?_
    try simp only [Act.put, LA, LB, LC, LD, LE, LF]
    refine wpAnyH_take (i := 11) (v := undef) rfl (by kernel_rfl) (by kernel_rfl) (by kernel_rfl) (fun _ _ _ h => h) (Or.inr ⟨by kernel_rfl, rfl⟩) hS ?_
    try simp only [Act.put, LA, LB, LC, LD, LE, LF]
    refine wpAnyH_take (i := 12) (v := undef) rfl (by kernel_rfl) (by kernel_rfl) (by kernel_rfl) (fun _ _ _ h => h) (Or.inr ⟨by kernel_rfl, rfl⟩) hS ?_
    try simp only [Act.put, LA, LB, LC, LD, LE, LF]
    refine wpAnyH_take (i := 13) (v := undef) rfl (by kernel_rfl) (by kernel_rfl) (by kernel_rfl) (fun _ _ _ h => h) (Or.inr ⟨by kernel_rfl, rfl⟩) hS ?_
    try simp only [Act.put, LA, LB, LC, LD, LE, LF]
    refine wpAnyH_take (i := 14) (v := undef) rfl (by kernel_rfl) (by kernel_rfl) (by kernel_rfl) (fun _ _ _ h => h) (Or.inr ⟨by kernel_rfl, rfl⟩) hS ?_
    try simp only [Act.put, LA, LB, LC, LD, LE, LF]
    refine wpAnyH_take (i := 15) (v := .bool true) rfl (by kernel_rfl) (by kernel_rfl) (by kernel_rfl) (fun _ _ _ h => h) (Or.inl ⟨by kernel_rfl, fun w' hw => ?y15⟩) hS ?_
    case y15 =>
     clear hS
     obtain ⟨hw0, hw1, hw2⟩ := hw
     go_simp
    try simp only [Act.put, LA, LB, LC, LD, LE, LF]
    refine wpAnyH_done (by kernel_rfl) ?_ _
    gi_wp2
    go_roundg (gk - 1)
    case measure => omega
    case rel => exact ⟨i + 1, by simp, by omega, hskip.out i _ hin (by simp [spc, hb]) (hCg.out i _ _ hC2.out (Below.refl _ _).drew)⟩
   ·have hb' : P.testBit i = false := by simpa using hb
    refine wpIn_wide.2 ?_
    rw [hb'] at CH
    have eah := Mr.hid (hAh.out i hin)
    generalize inB8 (ah i) P = ib at *
    go_region_held3 (fun w' => w'.cell? ⟨bp, 0, none⟩ = some (.pointer (some ⟨bs, 0, none⟩)) ∧ w'.cell? ⟨ba, 0, none⟩ = some (.int .u64 (P : Int)) ∧ w'.cell? ⟨bs, 2 + i, none⟩ = some (.int .u64 (ah i : Int))) (simp [*])
     (first | (go_at_call 50; refine (CH _).out.mono ?_; rintro e w3 ⟨rfl, rfl⟩) | (go_at_call 47; refine (CW _).out.mono ?_; rintro e w4 ⟨rfl, rfl⟩))
    cases ib with
    | false =>
     gi_wp2
     go_roundg (gk - 1)
     case measure => omega
     case rel => exact ⟨i + 1, by simp, by omega, hskip.out i _ hin (by simp [spc, ← eah.out]) (hCg.out i _ _ hC2.out (Below.refl _ _).drew)⟩
    | true =>
     have hO3 := hO2.out.below (Below.refl _ _).drew
     have CA := Mr.hid (pAllows_any hO3.ct (few_in hF) hm c (hob.out c (List.mem_of_getElem? hc)))
     have hsz := hO3.sz
     clear hO3
     gi_wp2
     refine ⟨trivial, callsIn_wide.2 (CA.out.mono ?_)⟩
     rintro e W3 ⟨u0, u1, u2, u3, u4, lab, rfl, hown, hB3⟩
     clear CA
     have B3 : Below wr.heap.size wr W3 := B2.trans (((Below.refl W2.heap.size W2).drew.trans hB3).mono B2.size)
     have hct := Mr.hid (hown.at.mono (fun k hk => Nat.le_trans hsz hk))
     obtain ⟨y0, z0, rfl, g0⟩ := hown.at.cell.form
     obtain ⟨y1, z1, rfl, g1⟩ := hown.at.stack.form
     obtain ⟨y2, z2, rfl, g2⟩ := hown.at.queue.form
     obtain ⟨y3, z3, rfl, g3⟩ := hown.at.set.form
     obtain ⟨y4, z4, rfl, g4⟩ := hown.at.table.form
     clear hown
     generalize hmay : (alw x c).2 = may
     replace hmay := Mr.hid hmay
     generalize hxn : (alw x c).1 = xn at *
     replace hxn := Mr.hid hxn
     gi_wp2
     generalize hW4 : W3.alloc _ = W4
     have B4 : Below wr.heap.size wr W4 := by rw [← hW4]; exact B3.alloc B3.size _
     have hct4 : Hid (CtAt W4 (fun k => B ≤ k) (.slice y0 xn.cell.length z0) (.slice y1 xn.stack.length z1) (.slice y2 xn.queue.length z2) (.slice y3 xn.set.length z3) (.slice y4 xn.table.length z4) xn) := by rw [← hW4]; exact Mr.hid (hct.out.below ((Below.refl _ _).alloc (Nat.le_refl _) _))
     have e4 : ∀ (j : Nat) (v : Value), (#[Value.slice y0 xn.cell.length z0, .slice y1 xn.stack.length z1, .slice y2 xn.queue.length z2, .slice y3 xn.set.length z3, .slice y4 xn.table.length z4] : Array Value)[j]? = some v → W4.cell? ⟨W3.heap.size, j, none⟩ = some v := by
      intro j v hv
      rw [← hW4]; unfold World.cell?; rw [heap_alloc_new]; exact hv
     have d0 := e4 0 _ rfl
     have d1 := e4 1 _ rfl
     have d2 := e4 2 _ rfl
     have d3 := e4 3 _ rfl
     have d4 := e4 4 _ rfl
     clear e4 hct hW4
     have q0 := (B4.cell (p := ⟨ba, 0, none⟩) al).trans ((B2.cell (p := ⟨ba, 0, none⟩) al).symm.trans p0)
     have hC4 := Mr.hid (hCg.out i _ _ hC0i.out (B4.drew))
     clear p0 p1 p2 p3 p4 p5 k1 k2 k3 k4 k5 k6 k7 k8 k9 cp sa bc9 hsz hO2 hC2
     cases may with
     | false =>
      refine wpIn_wide.2 ?_
      refine wp_region_held_drew (S := (fun w' => True)) (by kernel_rfl) trivial (fun hS => ?_)
      try simp only [Act.put, LA, LB, LC, LD, LE, LF]
      refine wpAnyH_take (i := 0) (v := .bool false) rfl (by kernel_rfl) (by kernel_rfl) (by kernel_rfl) (fun _ _ _ h => h) (Or.inl ⟨by kernel_rfl, fun w' hw => ?y0⟩) hS ?_
      case y0 =>
       clear hS
       obtain ⟨hw0⟩ := hw
       go_simp
      try simp only [Act.put, LA, LB, LC, LD, LE, LF]
      refine wpAnyH_take (i := 1) (v := .bool false) rfl (by kernel_rfl) (by kernel_rfl) (by kernel_rfl) (fun _ _ _ h => h) (Or.inl ⟨by kernel_rfl, fun w' hw => ?y1⟩) hS ?_
      case y1 =>
       clear hS
       obtain ⟨hw0⟩ := hw
       go_simp
      try simp only [Act.put, LA, LB, LC, LD, LE, LF]
      refine wpAnyH_take (i := 2) (v := undef) rfl (by kernel_rfl) (by kernel_rfl) (by kernel_rfl) (fun _ _ _ h => h) (Or.inr ⟨by kernel_rfl, rfl⟩) hS ?_
      try simp only [Act.put, LA, LB, LC, LD, LE, LF]
      refine wpAnyH_take (i := 3) (v := undef) rfl (by kernel_rfl) (by kernel_rfl) (by kernel_rfl) (fun _ _ _ h => h) (Or.inr ⟨by kernel_rfl, rfl⟩) hS ?_
      try simp only [Act.put, LA, LB, LC, LD, LE, LF]
      refine wpAnyH_take (i := 4) (v := undef) rfl (by kernel_rfl) (by kernel_rfl) (by kernel_rfl) (fun _ _ _ h => h) (Or.inr ⟨by kernel_rfl, rfl⟩) hS ?_
      try simp only [Act.put, LA, LB, LC, LD, LE, LF]
      refine wpAnyH_take (i := 5) (v := undef) rfl (by kernel_rfl) (by kernel_rfl) (by kernel_rfl) (fun _ _ _ h => h) (Or.inr ⟨by kernel_rfl, rfl⟩) hS ?_
      try simp only [Act.put, LA, LB, LC, LD, LE, LF]
      refine wpAnyH_take (i := 6) (v := undef) rfl (by kernel_rfl) (by kernel_rfl) (by kernel_rfl) (fun _ _ _ h => h) (Or.inr ⟨by kernel_rfl, rfl⟩) hS ?_
      try simp only [Act.put, LA, LB, LC, LD, LE, LF]
      refine wpAnyH_take (i := 7) (v := undef) rfl (by kernel_rfl) (by kernel_rfl) (by kernel_rfl) (fun _ _ _ h => h) (Or.inr ⟨by kernel_rfl, rfl⟩) hS ?_
      try simp only [Act.put, LA, LB, LC, LD, LE, LF]
      refine wpAnyH_take (i := 8) (v := undef) rfl (by kernel_rfl) (by kernel_rfl) (by kernel_rfl) (fun _ _ _ h => h) (Or.inr ⟨by kernel_rfl, rfl⟩) hS ?_
      try simp only [Act.put, LA, LB, LC, LD, LE, LF]
      refine wpAnyH_take (i := 9) (v := undef) rfl (by kernel_rfl) (by kernel_rfl) (by kernel_rfl) (fun _ _ _ h => h) (Or.inr ⟨by kernel_rfl, rfl⟩) hS ?_
      try simp only [Act.put, LA, LB, LC, LD, LE, LF]
      refine wpAnyH_take (i := 10) (v := undef) rfl (by kernel_rfl) (by kernel_rfl) (by kernel_rfl) (fun _ _ _ h => h) (Or.inr ⟨by kernel_rfl, rfl⟩) hS ?_
      try simp only [Act.put, LA, LB, LC, LD, LE, LF]
      refine wpAnyH_take (i := 11) (v := undef) rfl (by kernel_rfl) (by kernel_rfl) (by kernel_rfl) (fun _ _ _ h => h) (Or.inr ⟨by kernel_rfl, rfl⟩) hS ?_
      try simp only [Act.put, LA, LB, LC, LD, LE, LF]
      refine wpAnyH_take (i := 12) (v := .bool false) rfl (by kernel_rfl) (by kernel_rfl) (by kernel_rfl) (fun _ _ _ h => h) (Or.inl ⟨by kernel_rfl, fun w' hw => ?y12⟩) hS ?_
      case y12 =>
       clear hS
       obtain ⟨hw0⟩ := hw
       go_simp
      try simp only [Act.put, LA, LB, LC, LD, LE, LF]
      refine wpAnyH_done (by kernel_rfl) ?_ _
      gi_wp2
      go_roundg (gk - 1)
      case measure => omega
      case rel => exact ⟨i + 1, by simp, by omega, hskip.out i _ hin (by simp [spc, hcd, hmay.out]) hC4.out⟩
     | true =>
      have hok : (spc sc).ok P x i = true := by simp [spc, hcd, hmay.out, hb', ← eah.out]
      have CI := fun W' => Mr.hid (with_any P i hP (by omega) W')
      unfold gv at CI
      obtain ⟨fn, tmps, assign, body, hy, hR⟩ := hY.out i _ W4.drew hin hok ⟨_, _, _, _, _, rfl, by rw [hcd, hxn.out]; exact hct4.out.below (Below.refl _ _).drew⟩ hC4.out
      replace hR := Mr.hid hR
      unfold gv at hy
      refine wpIn_region_any (by kernel_rfl) ?_
      refine wpAnyIn_take (i := 0) (v := .bool true) rfl rfl (by kernel_rfl) (by kernel_rfl) (by kernel_rfl) (fun _ _ _ h => h) ⟨Or.inl ⟨by kernel_rfl, fun w' => rfl⟩, fun _ => rfl⟩ ?_
      try simp only [Act.put, LA, LB, LC, LD, LE, LF]
      refine wpAnyIn_take (i := 1) (v := .bool true) rfl rfl (by kernel_rfl) (by kernel_rfl) (by kernel_rfl) (fun _ _ _ h => h) ⟨Or.inl ⟨by kernel_rfl, fun w' => rfl⟩, fun _ => rfl⟩ ?_
      try simp only [Act.put, LA, LB, LC, LD, LE, LF]
      refine wpAnyIn_take (i := 2) (v := .func (.yield l) #[] #[]) rfl rfl (by kernel_rfl) (by kernel_rfl) (by kernel_rfl) (fun _ _ _ h => h) ⟨Or.inl ⟨by kernel_rfl, fun w' => rfl⟩, fun _ => rfl⟩ ?_
      try simp only [Act.put, LA, LB, LC, LD, LE, LF]
      refine wpAnyIn_take (i := 3) (v := .int .i64 (i : Int)) rfl rfl (by kernel_rfl) (by kernel_rfl) (by kernel_rfl) (fun _ _ _ h => h) ⟨Or.inl ⟨by kernel_rfl, fun w' => rfl⟩, fun _ => rfl⟩ ?_
      try simp only [Act.put, LA, LB, LC, LD, LE, LF]
      refine wpAnyIn_take (i := 4) (v := .pointer (some ⟨ba, 0, none⟩)) rfl rfl (by kernel_rfl) (by kernel_rfl) (by kernel_rfl) (fun _ _ _ h => h) ⟨Or.inl ⟨by kernel_rfl, fun w' => rfl⟩, fun _ => rfl⟩ ?_
      try simp only [Act.put, LA, LB, LC, LD, LE, LF]
      refine wpAnyIn_take (i := 6) (v := .int .i64 (i : Int)) rfl rfl (by kernel_rfl) (by kernel_rfl) (by kernel_rfl) (fun _ _ _ h => h) ⟨Or.inl ⟨by kernel_rfl, fun w' => rfl⟩, fun _ => rfl⟩ ?_
      try simp only [Act.put, LA, LB, LC, LD, LE, LF]
      refine wpAnyIn_ready (rs := [5, 8]) (by kernel_rfl) (by simp) (AllReadyIn.cons rfl (fun K hK => ?_) (AllReadyIn.cons rfl (fun K hK => ?_) AllReadyIn.nil))
      ·try simp only [Act.put, LA, LB, LC, LD, LE, LF]
       rw [if_pos (by kernel_rfl)]
       refine ⟨fun _ _ => trivial, ?_⟩
       go_simp
       refine hK _ _ ?_
       try simp only [Act.put, LA, LB, LC, LD, LE, LF]
       refine wpAnyIn_ready (rs := [7, 8]) (by kernel_rfl) (by simp) (AllReadyIn.cons rfl (fun K hK => ?_) (AllReadyIn.cons rfl (fun K hK => ?_) AllReadyIn.nil))
       ·try simp only [Act.put, LA, LB, LC, LD, LE, LF]
        rw [if_pos (by kernel_rfl)]
        refine ⟨fun _ _ => trivial, ?_⟩
        go_simp
        refine ((callsIn_wide.2 (CI _).out).mono ?_)
        rintro e w6 ⟨rfl, rfl⟩
        refine hK _ _ ?_
        try simp only [Act.put, LA, LB, LC, LD, LE, LF]
        refine wpAnyIn_ready (rs := [8]) (by kernel_rfl) (by simp) (AllReadyIn.cons rfl (fun K hK => ?_) AllReadyIn.nil)
        try simp only [Act.put, LA, LB, LC, LD, LE, LF]
        rw [if_pos (by kernel_rfl)]
        refine ⟨fun _ _ => trivial, ?_⟩
        go_simp
        refine hK _ _ ?_
        try simp only [Act.put, LA, LB, LC, LD, LE, LF]
        refine wpAnyIn_ready (rs := [9]) (by kernel_rfl) (by simp) (AllReadyIn.cons rfl (fun K hK => ?_) AllReadyIn.nil)
        try simp only [Act.put, LA, LB, LC, LD, LE, LF]
        rw [if_pos (by kernel_rfl)]
        refine ⟨fun _ _ => trivial, ?_⟩
        go_simp
        refine hK _ _ ?_
        try simp only [Act.put, LA, LB, LC, LD, LE, LF]
        refine wpAnyIn_ready (rs := [10]) (by kernel_rfl) (by simp) (AllReadyIn.cons rfl (fun K hK => ?_) AllReadyIn.nil)
        try simp only [Act.put, LA, LB, LC, LD, LE, LF]
        rw [if_pos (by kernel_rfl)]
        refine ⟨fun _ _ => trivial, ?_⟩
        go_simp
        refine hR.out.mono ?_
        rintro e w7 (⟨rfl, hC7⟩ | ⟨rfl, hX7⟩)
        ·refine hK _ _ ?_
         try simp only [Act.put, LA, LB, LC, LD, LE, LF]
         refine wpAnyIn_ready (rs := [11]) (by kernel_rfl) (by simp) (AllReadyIn.cons rfl (fun K hK => ?_) AllReadyIn.nil)
         try simp only [Act.put, LA, LB, LC, LD, LE, LF]
         rw [if_pos (by kernel_rfl)]
         refine ⟨fun _ _ => trivial, ?_⟩
         go_simp
         refine hK _ _ ?_
         try simp only [Act.put, LA, LB, LC, LD, LE, LF]
         refine wpAnyIn_ready (rs := [12]) (by kernel_rfl) (by simp) (AllReadyIn.cons rfl (fun K hK => ?_) AllReadyIn.nil)
         try simp only [Act.put, LA, LB, LC, LD, LE, LF]
         rw [if_pos (by kernel_rfl)]
         refine ⟨fun _ _ => trivial, ?_⟩
         go_simp
         refine hK _ _ ?_
         try simp only [Act.put, LA, LB, LC, LD, LE, LF]
         refine wpAnyIn_done (by kernel_rfl) ?_ _
         gi_wp2
         go_roundg (gk - 1)
         case measure => omega
         case rel => exact ⟨i + 1, by simp, by omega, hC7⟩
        ·refine hK _ _ ?_
         try simp only [Act.put, LA, LB, LC, LD, LE, LF]
         refine wpAnyIn_ready (rs := [11]) (by kernel_rfl) (by simp) (AllReadyIn.cons rfl (fun K hK => ?_) AllReadyIn.nil)
         try simp only [Act.put, LA, LB, LC, LD, LE, LF]
         rw [if_pos (by kernel_rfl)]
         refine ⟨fun _ _ => trivial, ?_⟩
         go_simp
         refine hK _ _ ?_
         try simp only [Act.put, LA, LB, LC, LD, LE, LF]
         refine wpAnyIn_ready (rs := [12]) (by kernel_rfl) (by simp) (AllReadyIn.cons rfl (fun K hK => ?_) AllReadyIn.nil)
         try simp only [Act.put, LA, LB, LC, LD, LE, LF]
         rw [if_pos (by kernel_rfl)]
         refine ⟨fun _ _ => trivial, ?_⟩
         go_simp
         refine hK _ _ ?_
         try simp only [Act.put, LA, LB, LC, LD, LE, LF]
         refine wpAnyIn_done (by kernel_rfl) ?_ _
         gi_wp2
         refine bodyPost_ret (results_none Tryz.results49 _ _ _) rfl ?_
         exact ⟨⟨_, rfl⟩, .inr hX7⟩
       ·try simp only [Act.put, LA, LB, LC, LD, LE, LF]
        rw [if_pos (by kernel_rfl)]
        refine ⟨fun _ _ => trivial, ?_⟩
        go_simp
        refine hK _ _ ?_
        try simp only [Act.put, LA, LB, LC, LD, LE, LF]
        refine wpAnyIn_ready (rs := [7]) (by kernel_rfl) (by simp) (AllReadyIn.cons rfl (fun K hK => ?_) AllReadyIn.nil)
        try simp only [Act.put, LA, LB, LC, LD, LE, LF]
        rw [if_pos (by kernel_rfl)]
        refine ⟨fun _ _ => trivial, ?_⟩
        go_simp
        refine ((callsIn_wide.2 (CI _).out).mono ?_)
        rintro e w6 ⟨rfl, rfl⟩
        refine hK _ _ ?_
        try simp only [Act.put, LA, LB, LC, LD, LE, LF]
        refine wpAnyIn_ready (rs := [9]) (by kernel_rfl) (by simp) (AllReadyIn.cons rfl (fun K hK => ?_) AllReadyIn.nil)
        try simp only [Act.put, LA, LB, LC, LD, LE, LF]
        rw [if_pos (by kernel_rfl)]
        refine ⟨fun _ _ => trivial, ?_⟩
        go_simp
        refine hK _ _ ?_
        try simp only [Act.put, LA, LB, LC, LD, LE, LF]
        refine wpAnyIn_ready (rs := [10]) (by kernel_rfl) (by simp) (AllReadyIn.cons rfl (fun K hK => ?_) AllReadyIn.nil)
        try simp only [Act.put, LA, LB, LC, LD, LE, LF]
        rw [if_pos (by kernel_rfl)]
        refine ⟨fun _ _ => trivial, ?_⟩
        go_simp
        refine hR.out.mono ?_
        rintro e w7 (⟨rfl, hC7⟩ | ⟨rfl, hX7⟩)
        ·refine hK _ _ ?_
         try simp only [Act.put, LA, LB, LC, LD, LE, LF]
         refine wpAnyIn_ready (rs := [11]) (by kernel_rfl) (by simp) (AllReadyIn.cons rfl (fun K hK => ?_) AllReadyIn.nil)
         try simp only [Act.put, LA, LB, LC, LD, LE, LF]
         rw [if_pos (by kernel_rfl)]
         refine ⟨fun _ _ => trivial, ?_⟩
         go_simp
         refine hK _ _ ?_
         try simp only [Act.put, LA, LB, LC, LD, LE, LF]
         refine wpAnyIn_ready (rs := [12]) (by kernel_rfl) (by simp) (AllReadyIn.cons rfl (fun K hK => ?_) AllReadyIn.nil)
         try simp only [Act.put, LA, LB, LC, LD, LE, LF]
         rw [if_pos (by kernel_rfl)]
         refine ⟨fun _ _ => trivial, ?_⟩
         go_simp
         refine hK _ _ ?_
         try simp only [Act.put, LA, LB, LC, LD, LE, LF]
         refine wpAnyIn_done (by kernel_rfl) ?_ _
         gi_wp2
         go_roundg (gk - 1)
         case measure => omega
         case rel => exact ⟨i + 1, by simp, by omega, hC7⟩
        ·refine hK _ _ ?_
         try simp only [Act.put, LA, LB, LC, LD, LE, LF]
         refine wpAnyIn_ready (rs := [11]) (by kernel_rfl) (by simp) (AllReadyIn.cons rfl (fun K hK => ?_) AllReadyIn.nil)
         try simp only [Act.put, LA, LB, LC, LD, LE, LF]
         rw [if_pos (by kernel_rfl)]
         refine ⟨fun _ _ => trivial, ?_⟩
         go_simp
         refine hK _ _ ?_
         try simp only [Act.put, LA, LB, LC, LD, LE, LF]
         refine wpAnyIn_ready (rs := [12]) (by kernel_rfl) (by simp) (AllReadyIn.cons rfl (fun K hK => ?_) AllReadyIn.nil)
         try simp only [Act.put, LA, LB, LC, LD, LE, LF]
         rw [if_pos (by kernel_rfl)]
         refine ⟨fun _ _ => trivial, ?_⟩
         go_simp
         refine hK _ _ ?_
         try simp only [Act.put, LA, LB, LC, LD, LE, LF]
         refine wpAnyIn_done (by kernel_rfl) ?_ _
         gi_wp2
         refine bodyPost_ret (results_none Tryz.results49 _ _ _) rfl ?_
         exact ⟨⟨_, rfl⟩, .inr hX7⟩
      ·try simp only [Act.put, LA, LB, LC, LD, LE, LF]
       rw [if_pos (by kernel_rfl)]
       refine ⟨fun _ _ => trivial, ?_⟩
       go_simp
       refine hK _ _ ?_
       try simp only [Act.put, LA, LB, LC, LD, LE, LF]
       refine wpAnyIn_ready (rs := [5]) (by kernel_rfl) (by simp) (AllReadyIn.cons rfl (fun K hK => ?_) AllReadyIn.nil)
       try simp only [Act.put, LA, LB, LC, LD, LE, LF]
       rw [if_pos (by kernel_rfl)]
       refine ⟨fun _ _ => trivial, ?_⟩
       go_simp
       refine hK _ _ ?_
       try simp only [Act.put, LA, LB, LC, LD, LE, LF]
       refine wpAnyIn_ready (rs := [7]) (by kernel_rfl) (by simp) (AllReadyIn.cons rfl (fun K hK => ?_) AllReadyIn.nil)
       try simp only [Act.put, LA, LB, LC, LD, LE, LF]
       rw [if_pos (by kernel_rfl)]
       refine ⟨fun _ _ => trivial, ?_⟩
       go_simp
       refine ((callsIn_wide.2 (CI _).out).mono ?_)
       rintro e w6 ⟨rfl, rfl⟩
       refine hK _ _ ?_
       try simp only [Act.put, LA, LB, LC, LD, LE, LF]
       refine wpAnyIn_ready (rs := [9]) (by kernel_rfl) (by simp) (AllReadyIn.cons rfl (fun K hK => ?_) AllReadyIn.nil)
       try simp only [Act.put, LA, LB, LC, LD, LE, LF]
       rw [if_pos (by kernel_rfl)]
       refine ⟨fun _ _ => trivial, ?_⟩
       go_simp
       refine hK _ _ ?_
       try simp only [Act.put, LA, LB, LC, LD, LE, LF]
       refine wpAnyIn_ready (rs := [10]) (by kernel_rfl) (by simp) (AllReadyIn.cons rfl (fun K hK => ?_) AllReadyIn.nil)
       try simp only [Act.put, LA, LB, LC, LD, LE, LF]
       rw [if_pos (by kernel_rfl)]
       refine ⟨fun _ _ => trivial, ?_⟩
       go_simp
       refine hR.out.mono ?_
       rintro e w7 (⟨rfl, hC7⟩ | ⟨rfl, hX7⟩)
       ·refine hK _ _ ?_
        try simp only [Act.put, LA, LB, LC, LD, LE, LF]
        refine wpAnyIn_ready (rs := [11]) (by kernel_rfl) (by simp) (AllReadyIn.cons rfl (fun K hK => ?_) AllReadyIn.nil)
        try simp only [Act.put, LA, LB, LC, LD, LE, LF]
        rw [if_pos (by kernel_rfl)]
        refine ⟨fun _ _ => trivial, ?_⟩
        go_simp
        refine hK _ _ ?_
        try simp only [Act.put, LA, LB, LC, LD, LE, LF]
        refine wpAnyIn_ready (rs := [12]) (by kernel_rfl) (by simp) (AllReadyIn.cons rfl (fun K hK => ?_) AllReadyIn.nil)
        try simp only [Act.put, LA, LB, LC, LD, LE, LF]
        rw [if_pos (by kernel_rfl)]
        refine ⟨fun _ _ => trivial, ?_⟩
        go_simp
        refine hK _ _ ?_
        try simp only [Act.put, LA, LB, LC, LD, LE, LF]
        refine wpAnyIn_done (by kernel_rfl) ?_ _
        gi_wp2
        go_roundg (gk - 1)
        case measure => omega
        case rel => exact ⟨i + 1, by simp, by omega, hC7⟩
       ·refine hK _ _ ?_
        try simp only [Act.put, LA, LB, LC, LD, LE, LF]
        refine wpAnyIn_ready (rs := [11]) (by kernel_rfl) (by simp) (AllReadyIn.cons rfl (fun K hK => ?_) AllReadyIn.nil)
        try simp only [Act.put, LA, LB, LC, LD, LE, LF]
        rw [if_pos (by kernel_rfl)]
        refine ⟨fun _ _ => trivial, ?_⟩
        go_simp
        refine hK _ _ ?_
        try simp only [Act.put, LA, LB, LC, LD, LE, LF]
        refine wpAnyIn_ready (rs := [12]) (by kernel_rfl) (by simp) (AllReadyIn.cons rfl (fun K hK => ?_) AllReadyIn.nil)
        try simp only [Act.put, LA, LB, LC, LD, LE, LF]
        rw [if_pos (by kernel_rfl)]
        refine ⟨fun _ _ => trivial, ?_⟩
        go_simp
        refine hK _ _ ?_
        try simp only [Act.put, LA, LB, LC, LD, LE, LF]
        refine wpAnyIn_done (by kernel_rfl) ?_ _
        gi_wp2
        refine bodyPost_ret (results_none Tryz.results49 _ _ _) rfl ?_
        exact ⟨⟨_, rfl⟩, .inr hX7⟩
  ·gi_wp2
   go_end0
   obtain rfl : i = sc.length := by omega
   exact ⟨⟨_, rfl⟩, .inl hC⟩
end Go.Proofs.YtnbibkohgppjnaaGreat.Ws
