import Derived.Test.YtpknggcgojkjgaaGreatJ10
import Derived.Test.YtpknggcgojkjgaaGreatJ02
import Derived.Laws.MakeOwn
import Derived.Deep.LoopGhost
import Derived.Deep.DeepCutAuto
/-
  CENSUS: slots.note, slots.turn.
-/
namespace Go.Proofs.YtpknggcgojkjgaaGreat.Cn
open Go.RowKit Mr Md
set_option linter.unusedVariables false
set_option linter.unusedSimpArgs false
set_option maxRecDepth 100000
set_option maxHeartbeats 8000000 in
theorem note_any {w : World} {n bs g1 g2 : Nat} {s : Sk} (h : Sw w n bs g1 g2 s) (ho : s.Ok n) (i : Nat) (hi : i < n) (d : Int) :
    Calls Tryz.prog 123 #[.pointer (some ⟨bs, 0, none⟩), .int .i64 (i : Int), .int .i64 d] w fun e w' => e = .returned (.tuple #[]) ∧ Sw w' n bs g1 g2 (s.note i d) ∧ Fr w w' (fun k => k = bs) := by
  obtain ⟨h0, h6, h1⟩ := ho i hi
  obtain ⟨j, hj⟩ : ∃ j : Nat, s.st i = (j : Int) := ⟨(s.st i).toNat, by omega⟩
  have hj6 : j < 6 := by omega
  have c0 := h.c0
  have c1 := h.c1
  have e0 : w.cell? ⟨g1, i, none⟩ = some (.int .i64 (j : Int)) := by rw [h.r1.cell i hi, ntF, hj]
  have cj := h.cn j hj6
  have l0 := h.box.lt
  have l1 := h.r1.lt
  have f0 := h.box.live (2 + j)
  have hiI : (i : Int) < (n : Int) := by omega
  have hj6I : (j : Int) < 6 := by omega
  have N1 := Mr.hid ((h.setCn j hj6 (wrap64 (s.cn j + d))).drew)
  have F1 : Hid (Fr w ((w.setCell ⟨bs, 2 + j, none⟩ (.int .i64 (wrap64 (s.cn j + d)))).drew) (fun k => k = bs)) := ((Fr.refl w (fun k => k = bs)).setCell ⟨bs, 2 + j, none⟩ _ (.inl rfl)).drew
  have hjt : (s.st i).toNat = j := by omega
  obtain ⟨s1, hs1⟩ : ∃ s1 : Sk, s1 = { s with cn := updI s.cn j (wrap64 (s.cn j + d)) } := ⟨_, rfl⟩
  rw [← hs1] at N1
  have st1 : s1.st = s.st := by rw [hs1]
  have hd1 : s1.hd = s.hd := by rw [hs1]
  have ca1 : s1.ca = s.ca := by rw [hs1]
  have ny : s.st i = 1 → s.note i d = { s1 with ca := updI s1.ca (s.hd i).toNat (wrap64 (s1.ca (s.hd i).toNat + d)) } := fun e => by
    unfold Sk.note; simp only [hjt, hs1]; rw [if_pos e]
  have nn : ¬ s.st i = 1 → s.note i d = s1 := fun e => by
    unfold Sk.note; simp only [hjt, hs1]; rw [if_neg e]
  have e0' : s1.st i = (j : Int) := by rw [st1, hj]
  replace h := Mr.hid h
  replace nn := Mr.hid nn
  replace ny := Mr.hid ny
  replace hs1 := Mr.hid hs1
  replace hj := Mr.hid hj
  replace e0' := Mr.hid e0'
  replace st1 := Mr.hid st1
  replace hd1 := Mr.hid hd1
  replace ca1 := Mr.hid ca1
  clear hjt
  by_cases h1j : j = 1
  · have hh := h1 (by rw [hj.out, h1j]; rfl)
    have hj1 : s.st i = 1 := by rw [hj.out, h1j]; rfl
    obtain ⟨t, ht⟩ : ∃ t : Nat, s.hd i = (t : Int) := ⟨(s.hd i).toNat, by omega⟩
    have ht16 : t < 16 := by omega
    have ht16I : (t : Int) < 16 := by omega
    have q1 : ((j : Int) == 1) = true := by simp; omega
    replace h1j := Mr.hid h1j
    replace hj1 := Mr.hid hj1
    replace ht := Mr.hid ht
    clear hh h1 h0 h6
    go_enter Tryz.func123, Tryz.ntmps123
    go_upto_region 0 with (fail)
    go_region
    clear c0 c1 e0 cj l0 l1 f0
    generalize ((w.setCell _ _).drew) = w1 at *
    have c0 := N1.out.c0
    have c1 := N1.out.c1
    have e0 : w1.cell? ⟨g1, i, none⟩ = some (.int .i64 (j : Int)) := by rw [N1.out.r1.cell i hi, ntF, e0'.out]
    have e1 : w1.cell? ⟨g2, i, none⟩ = some (.int .i64 (t : Int)) := by rw [N1.out.r2.cell i hi, ntF, hd1.out, ht.out]
    have ct := N1.out.ca t ht16
    have l0 := N1.out.box.lt
    have l1 := N1.out.r1.lt
    have l2 := N1.out.r2.lt
    have f0 := N1.out.box.live (8 + t)
    have N2 := Mr.hid ((N1.out.setCa t ht16 (wrap64 (s1.ca t + d))).drew)
    have F2 : Hid (Fr w1 ((w1.setCell ⟨bs, 8 + t, none⟩ (.int .i64 (wrap64 (s1.ca t + d)))).drew) (fun k => k = bs)) := ((Fr.refl w1 (fun k => k = bs)).setCell ⟨bs, 8 + t, none⟩ _ (.inl rfl)).drew
    go_upto_region 2 with (fail)
    go_region
    go_wp2
    go_end0
    have e := ny.out hj1.out
    rw [ht.out, Int.toNat_natCast] at e
    exact ⟨rfl, by rw [e]; exact N2.out, F1.out.trans (F2.out.mono (fun k hk => .inl hk))⟩
  · have q1 : ((j : Int) == 1) = false := by simp; omega
    have hj1 : ¬ s.st i = 1 := by rw [hj.out]; omega
    replace h1j := Mr.hid h1j
    replace hj1 := Mr.hid hj1
    clear h1 h0 h6
    go_enter Tryz.func123, Tryz.ntmps123
    go_upto_region 0 with (fail)
    go_region
    clear c0 c1 e0 cj l0 l1 f0
    generalize ((w.setCell _ _).drew) = w1 at *
    have c0 := N1.out.c0
    have e0 : w1.cell? ⟨g1, i, none⟩ = some (.int .i64 (j : Int)) := by rw [N1.out.r1.cell i hi, ntF, e0'.out]
    have l0 := N1.out.box.lt
    have l1 := N1.out.r1.lt
    go_wp2
    go_end0
    exact ⟨rfl, by rw [nn.out hj1.out]; exact N1.out, F1.out⟩
/-- A shift made. -/
def Sk.turn (s : Sk) (x : Sx) : Sk :=
  let s1 := s.note x.slot.toNat (-1)
  let s2 : Sk := { s1 with st := updI s1.st x.slot.toNat x.to, hd := updI s1.hd x.slot.toNat (if x.to = 0 ∨ x.to = 3 then -1 else x.th) }
  s2.note x.slot.toNat 1
theorem updI_twice (f : Nat → Int) (i : Nat) (u v : Int) : updI (updI f i u) i v = updI f i v := by funext k; unfold updI; by_cases e : k = i <;> simp [e]
theorem note_st (s : Sk) (i : Nat) (d : Int) : (s.note i d).st = s.st ∧ (s.note i d).hd = s.hd := by unfold Sk.note; split <;> exact ⟨rfl, rfl⟩
theorem note_ok {s : Sk} {n : Nat} (h : s.Ok n) (i : Nat) (d : Int) : (s.note i d).Ok n := fun k hk => by rw [(note_st s i d).1, (note_st s i d).2]; exact h k hk
def Sk.mid (s : Sk) (x : Sx) : Sk :=
  let s1 := s.note x.slot.toNat (-1)
  { s1 with st := updI s1.st x.slot.toNat x.to, hd := updI s1.hd x.slot.toNat (if x.to = 0 ∨ x.to = 3 then -1 else x.th) }
theorem turn_mid (s : Sk) (x : Sx) : s.turn x = (s.mid x).note x.slot.toNat 1 := rfl
theorem mid_ok {s : Sk} {n : Nat} (h : s.Ok n) {x : Sx} (ht : 0 ≤ x.to ∧ x.to < 6) (hth : 0 ≤ x.th ∧ x.th < 16) : (s.mid x).Ok n := by
  intro k hk
  have := note_ok h x.slot.toNat (-1) k hk
  unfold Sk.mid updI
  by_cases e : k = x.slot.toNat
  · simp only [e, if_true]
    refine ⟨ht.1, ht.2, fun e1 => ?_⟩
    rw [if_neg (by omega)]; exact hth
  · simp only [e, if_false]; exact this
theorem turn_ok {s : Sk} {n : Nat} (h : s.Ok n) {x : Sx} (ht : 0 ≤ x.to ∧ x.to < 6) (hth : 0 ≤ x.th ∧ x.th < 16) : (s.turn x).Ok n := by rw [turn_mid]; exact note_ok (mid_ok h ht hth) _ _
set_option maxHeartbeats 8000000 in
theorem turn_any {w : World} {n bs g1 g2 : Nat} {s : Sk} (h : Sw w n bs g1 g2 s) (ho : s.Ok n) (x : Sx) (hx : 0 ≤ x.slot ∧ x.slot < (n : Int)) (ht : 0 ≤ x.to ∧ x.to < 6) (hth : 0 ≤ x.th ∧ x.th < 16) :
    Calls Tryz.prog 80 #[.pointer (some ⟨bs, 0, none⟩), x.val] w fun e w' => e = .returned (.tuple #[]) ∧ Sw w' n bs g1 g2 (s.turn x) ∧ Fr w w' (fun k => k = bs ∨ k = g1 ∨ k = g2) := by
  obtain ⟨i, hi⟩ : ∃ i : Nat, x.slot = (i : Int) := ⟨x.slot.toNat, by omega⟩
  have hin : i < n := by omega
  have hit : x.slot.toNat = i := by omega
  have hmid : s.turn x = (s.mid x).note i 1 := by rw [turn_mid, hit]
  have hok := mid_ok ho ht hth
  have ok1 := note_ok ho i (-1)
  have hm : s.mid x = { s.note i (-1) with st := updI (s.note i (-1)).st i x.to, hd := updI (s.note i (-1)).hd i (if x.to = 0 ∨ x.to = 3 then -1 else x.th) } := by unfold Sk.mid; rw [hit]
  have N1 := Mr.hid (fun W (hW : Sw W n bs g1 g2 s) => note_any hW ho i hin (-1))
  have N2 := Mr.hid (fun W (hW : Sw W n bs g1 g2 (s.mid x)) => note_any hW hok i hin 1)
  obtain ⟨mv, th, slot, fr, tt⟩ := x
  simp only at hi ht hth hmid hm hit
  subst hi
  have hiI : (i : Int) < (n : Int) := by omega
  rw [hmid]
  generalize hs2 : Sk.mid s ⟨mv, th, (i : Int), fr, tt⟩ = s2 at *
  generalize hs1 : Sk.note s i (-1) = s1 at *
  have hA := Mr.hid (h.below ((Below.refl _ w).alloc (Nat.le_refl _) (sxO ⟨mv, th, (i : Int), fr, tt⟩)))
  have hF : Hid (Fr w (w.alloc (sxO ⟨mv, th, (i : Int), fr, tt⟩)) (fun k => k = bs ∨ k = g1 ∨ k = g2)) := (Fr.refl _ _).alloc _
  have hb : Hid ((w.alloc (sxO ⟨mv, th, (i : Int), fr, tt⟩)).heap[w.heap.size]? = some (sxO ⟨mv, th, (i : Int), fr, tt⟩)) := heap_alloc_new _ _
  have hbs : Hid (w.heap.size ≠ bs ∧ w.heap.size ≠ g1 ∧ w.heap.size ≠ g2) := ⟨Nat.ne_of_gt h.box.lt, Nat.ne_of_gt h.r1.lt, Nat.ne_of_gt h.r2.lt⟩
  replace h := Mr.hid h
  replace hm := Mr.hid hm
  replace hok := Mr.hid hok
  replace ok1 := Mr.hid ok1
  replace hmid := Mr.hid hmid
  replace hs2 := Mr.hid hs2
  replace hs1 := Mr.hid hs1
  replace ho := Mr.hid ho
  clear hit
  unfold Sx.val
  unfold sxO at hA hF hb
  simp only at hA hF hb
  go_enter Tryz.func80, Tryz.ntmps80
  go_upto_region 1 with (fail)
  generalize (w.alloc _) = wa at *
  generalize w.heap.size = B at *
  have bc := sxO_cells (a := ⟨mv, th, (i : Int), fr, tt⟩) hb.out
  obtain ⟨bl, b0, b1, b2, b3, b4⟩ := bc
  simp only [Nat.zero_add] at b0 b1 b2 b3 b4
  go_upto_region 2 with (go_at_call 123; refine (N1.out _ hA.out).mono ?_; rintro e wb ⟨rfl, hA2, hF2⟩; replace hA2 := Mr.hid hA2; replace hF2 := Mr.hid hF2)
  have hF3 := Mr.hid (hF.out.trans (hF2.out.mono (fun k hk => .inl (.inl hk))))
  have hbb : Hid (wb.heap[B]? = some (sxO ⟨mv, th, (i : Int), fr, tt⟩)) := (hF2.out.block B bl (fun e => hbs.out.1 e)).trans hb.out
  clear hA hF hF2 bl b0 b1 b2 b3 b4 hb
  obtain ⟨bl, b0, b1, b2, b3, b4⟩ := sxO_cells hbb.out
  simp only [Nat.zero_add] at b0 b1 b2 b3 b4
  have c0 := hA2.out.c0
  have c1 := hA2.out.c1
  have l0 := hA2.out.box.lt
  have l1 := hA2.out.r1.lt
  have l2 := hA2.out.r2.lt
  have e0 := hA2.out.r1.cell i hin
  have e1 := hA2.out.r2.cell i hin
  have f1 := hA2.out.r1.live i
  have f2 := hA2.out.r2.live i
  have d3 := hA2.out.d3
  have d1 := hA2.out.d1
  have d2 := hA2.out.d2
  have n0 := hbs.out.1
  have n1 := hbs.out.2.1
  have n2 := hbs.out.2.2
  have n0' := Ne.symm n0
  have n1' := Ne.symm n1
  have n2' := Ne.symm n2
  have d3' := Ne.symm d3
  have d1' := Ne.symm d1
  have d2' := Ne.symm d2
  have A3 := Mr.hid (((hA2.out.setSt i hin tt).setHd i hin th).drew)
  have F3 : Hid (Fr wb (((wb.setCell ⟨g1, i, none⟩ (.int .i64 tt)).setCell ⟨g2, i, none⟩ (.int .i64 th)).drew) (fun k => k = bs ∨ k = g1 ∨ k = g2)) := (((Fr.refl wb (fun k => k = bs ∨ k = g1 ∨ k = g2)).setCell ⟨g1, i, none⟩ _ (.inl (.inr (.inl rfl)))).setCell ⟨g2, i, none⟩ _ (.inl (.inr (.inr rfl)))).drew
  have hb3 : Hid ((((wb.setCell ⟨g1, i, none⟩ (.int .i64 tt)).setCell ⟨g2, i, none⟩ (.int .i64 th)).drew).heap[B]? = some (sxO ⟨mv, th, (i : Int), fr, tt⟩)) := ((Below.heap_setCell _ ⟨g2, i, none⟩ _ B hbs.out.2.2).trans (Below.heap_setCell _ ⟨g1, i, none⟩ _ B hbs.out.2.1)).trans hbb.out
  unfold ntF at e0 e1
  go_region
  clear bl b0 b1 b2 b3 b4 c0 c1 l0 l1 l2 e0 e1 f1 f2 hbb hA2
  generalize (((wb.setCell _ _).setCell _ _).drew) = wc at *
  obtain ⟨bl, b0, b1, b2, b3, b4⟩ := sxO_cells hb3.out
  simp only [Nat.zero_add] at b0 b1 b2 b3 b4
  by_cases hfr : tt = 0 ∨ tt = 3
  · have c0 := A3.out.c0
    have c1 := A3.out.c1
    have l0 := A3.out.box.lt
    have l1 := A3.out.r1.lt
    have l2 := A3.out.r2.lt
    have e0 := A3.out.r1.cell i hin
    have e1 := A3.out.r2.cell i hin
    have f1 := A3.out.r1.live i
    have f2 := A3.out.r2.live i
    unfold ntF at e0 e1
    have A4 := Mr.hid ((A3.out.setHd i hin (-1)).drew)
    have F4 : Hid (Fr wc ((wc.setCell ⟨g2, i, none⟩ (.int .i64 (-1))).drew) (fun k => k = bs ∨ k = g1 ∨ k = g2)) := ((Fr.refl wc (fun k => k = bs ∨ k = g1 ∨ k = g2)).setCell ⟨g2, i, none⟩ _ (.inl (.inr (.inr rfl)))).drew
    have hb4 : Hid (((wc.setCell ⟨g2, i, none⟩ (.int .i64 (-1))).drew).heap[B]? = some (sxO ⟨mv, th, (i : Int), fr, tt⟩)) := (Below.heap_setCell _ ⟨g2, i, none⟩ _ B n2).trans hb3.out
    rcases hfr with hf0 | hf0
    · have q1 : (tt == 0) = true := by simp [hf0]
      replace hf0 := Mr.hid hf0
      go_upto_region 4 with (fail)
      go_region
      clear bl b0 b1 b2 b3 b4 c0 c1 l0 l1 l2 e0 e1 f1 f2
      generalize ((wc.setCell _ _).drew) = wd at *
      obtain ⟨bl, b0, b1, b2, b3, b4⟩ := sxO_cells hb4.out
      simp only [Nat.zero_add] at b0 b1 b2 b3 b4
      have A5 := Mr.hid (show Sw wd n bs g1 g2 s2 by rw [hm.out, if_pos (.inl hf0.out)]; have := A4.out; simpa [updI_twice] using this)
      go_wp2_with (go_at_call 123; refine (N2.out _ A5.out).mono ?_; rintro e we ⟨rfl, hA6, hF6⟩; replace hA6 := Mr.hid hA6; replace hF6 := Mr.hid hF6)
      go_end0
      exact ⟨rfl, hA6.out, ((hF3.out.trans (F3.out.mono (fun k hk => .inl hk))).trans (F4.out.mono (fun k hk => .inl hk))).trans (hF6.out.mono (fun k hk => .inl (.inl hk)))⟩
    · have q1 : (tt == 0) = false := by simp [hf0]
      have q2 : (tt == 3) = true := by simp [hf0]
      replace hf0 := Mr.hid hf0
      go_upto_region 4 with (fail)
      go_region
      clear bl b0 b1 b2 b3 b4 c0 c1 l0 l1 l2 e0 e1 f1 f2
      generalize ((wc.setCell _ _).drew) = wd at *
      obtain ⟨bl, b0, b1, b2, b3, b4⟩ := sxO_cells hb4.out
      simp only [Nat.zero_add] at b0 b1 b2 b3 b4
      have A5 := Mr.hid (show Sw wd n bs g1 g2 s2 by rw [hm.out, if_pos (.inr hf0.out)]; have := A4.out; simpa [updI_twice] using this)
      go_wp2_with (go_at_call 123; refine (N2.out _ A5.out).mono ?_; rintro e we ⟨rfl, hA6, hF6⟩; replace hA6 := Mr.hid hA6; replace hF6 := Mr.hid hF6)
      go_end0
      exact ⟨rfl, hA6.out, ((hF3.out.trans (F3.out.mono (fun k hk => .inl hk))).trans (F4.out.mono (fun k hk => .inl hk))).trans (hF6.out.mono (fun k hk => .inl (.inl hk)))⟩
  · have q1 : (tt == 0) = false := by simp; exact fun e => hfr (.inl e)
    have q2 : (tt == 3) = false := by simp; exact fun e => hfr (.inr e)
    have A5 := Mr.hid (show Sw wc n bs g1 g2 s2 by rw [hm.out, if_neg hfr]; exact A3.out)
    replace hfr := Mr.hid hfr
    go_wp2_with (go_at_call 123; refine (N2.out _ A5.out).mono ?_; rintro e we ⟨rfl, hA6, hF6⟩; replace hA6 := Mr.hid hA6; replace hF6 := Mr.hid hF6)
    go_end0
    exact ⟨rfl, hA6.out, (hF3.out.trans (F3.out.mono (fun k hk => .inl hk))).trans (hF6.out.mono (fun k hk => .inl (.inl hk)))⟩
end Go.Proofs.YtpknggcgojkjgaaGreat.Cn
/-
  CENSUS: slotsOf.
-/
namespace Go.Proofs.YtpknggcgojkjgaaGreat.Cn
open Go.RowKit Mr Md
set_option linter.unusedVariables false
set_option linter.unusedSimpArgs false
set_option maxRecDepth 100000
theorem cparts_of {a : Option TypeInfo} {z : Option Value} {n b : Nat} (h : a.map (fun i => (i.zero, i.size, i.bytes)) = some (z, n, b)) : ∃ i, a = some i ∧ i.zero = z ∧ i.size = n ∧ i.bytes = b := by
  cases a with
  | none => simp at h
  | some i => simp at h; exact ⟨i, rfl, h.1, h.2.1, h.2.2⟩
theorem wt_state : (Tryz.prog.info? 46).map (fun i => (i.zero, i.size, i.bytes)) = some (some (.int .i64 0), 1, 8) := by kernel_rfl
theorem wt_ints : (Tryz.prog.info? 3).map (fun i => (i.zero, i.size, i.bytes)) = some (some (.int .i64 0), 1, 8) := by kernel_rfl
def zrow (n : Nat) : Array Value := Array.replicate n (.int .i64 0)
theorem made_z (n : Nat) : madeCells (Value.int .i64 0).cells n = zrow n := by
  apply Array.ext
  · rw [size_madeCells]; simp [zrow]
  · intro i h1 h2
    simp [madeCells, zrow, Value.cells, Nat.mod_one]
theorem make_st (W : World) (n : Nat) (hn : n ≤ 1000000) : (Instr.makeSlice 39 (.int .i64 (n : Int)) (.int .i64 (n : Int))).run Tryz.prog W = .ok (.slice (some ⟨W.heap.size, 0, none⟩) n n) (W.alloc (.cells (zrow n) 46 (0, 0))) := by
  obtain ⟨i0, hi, hz0, hz1, hz2⟩ := cparts_of wt_state
  have h := run_make (P := Tryz.prog) W 39 46 i0 _ Tryz.underlying39 hi hz0 .i64 .i64 (n : Int) (n : Int) (by omega) (Int.le_refl _) (by rw [hz2]; omega) (by omega)
  have e : (n : Int).toNat = n := by omega
  rw [e, hz1, Nat.mul_one, made_z] at h
  exact h
theorem make_in (W : World) (n : Nat) (hn : n ≤ 1000000) : (Instr.makeSlice 40 (.int .i64 (n : Int)) (.int .i64 (n : Int))).run Tryz.prog W = .ok (.slice (some ⟨W.heap.size, 0, none⟩) n n) (W.alloc (.cells (zrow n) 3 (0, 0))) := by
  obtain ⟨i0, hi, hz0, hz1, hz2⟩ := cparts_of wt_ints
  have h := run_make (P := Tryz.prog) W 40 3 i0 _ Tryz.underlying40 hi hz0 .i64 .i64 (n : Int) (n : Int) (by omega) (Int.le_refl _) (by rw [hz2]; omega) (by omega)
  have e : (n : Int).toNat = n := by omega
  rw [e, hz1, Nat.mul_one, made_z] at h
  exact h
theorem zrow_box {w : World} {b n : Nat} {t : TypeId} (h : w.heap[b]? = some (.cells (zrow n) t (0, 0))) : Box w b n (ntF (fun _ => 0)) := ⟨_, _, h, fun k hk => by simp [zrow, ntF, hk]⟩
def sk0 (n used : Int) : Sk := ⟨fun k => if (k : Int) < used then 3 else 0, fun _ => -1, fun k => if k = 3 then used else if k = 0 then n - used else 0, fun _ => 0⟩
def cfgV (c : Nat → Int) : Value := .agg #[.int .i64 (c 0), .int .i64 (c 1), .int .i64 (c 2), .int .i64 (c 3), .int .i64 (c 4), .int .i64 (c 5), .int .i64 (c 6)]
/-- The loop's state: holders -1 and Linked below i. -/
def skI (used : Int) (i : Nat) : Sk := ⟨fun k => if k < i ∧ (k : Int) < used then 3 else 0, fun k => if k < i then -1 else 0, fun _ => 0, fun _ => 0⟩
theorem skI_00 (used : Int) : skI used 0 = skI 0 0 := by unfold skI; simp
theorem Sw.congr {w : World} {n bs g1 g2 : Nat} {s s' : Sk} (h : Sw w n bs g1 g2 s) (h1 : ∀ k, k < n → s.st k = s'.st k) (h2 : ∀ k, k < n → s.hd k = s'.hd k) (h3 : ∀ k, k < 6 → s.cn k = s'.cn k) (h4 : ∀ k, k < 16 → s.ca k = s'.ca k) : Sw w n bs g1 g2 s' :=
  ⟨h.box.congr (fun k hk => by
    unfold sf
    by_cases e0 : k = 0
    · simp [e0]
    · by_cases e1 : k = 1
      · simp [e1]
      · by_cases e8 : k < 8
        · simp [e0, e1, e8, h3 (k - 2) (by omega)]
        · simp [e0, e1, e8, h4 (k - 8) (by omega)]), h.r1.congr (fun k hk => by unfold ntF; rw [h1 k hk]), h.r2.congr (fun k hk => by unfold ntF; rw [h2 k hk]), h.d1, h.d2, h.d3⟩
theorem upd_hd (i : Nat) : updI (fun k => if k < i then (-1 : Int) else 0) i (-1) = fun k => if k < i + 1 then -1 else 0 := by
  funext k; unfold updI
  by_cases e : k = i
  · subst e; simp
  · by_cases h : k < i
    · simp [e, h, show k < i + 1 from by omega]
    · simp [e, h, show ¬ k < i + 1 from by omega]
theorem upd_st_y {used : Int} {i : Nat} (h : (i : Int) < used) : updI (fun k => if k < i ∧ (k : Int) < used then (3 : Int) else 0) i 3 = fun k => if k < i + 1 ∧ (k : Int) < used then 3 else 0 := by
  funext k; unfold updI
  by_cases e : k = i
  · subst e; simp [h]
  · by_cases h' : k < i
    · simp [e, h', show k < i + 1 from by omega]
    · simp [e, h', show ¬ k < i + 1 from by omega]
theorem upd_st_n {used : Int} {i : Nat} (h : ¬ (i : Int) < used) : (fun k => if k < i ∧ ((k : Nat) : Int) < used then (3 : Int) else 0) = fun k => if k < i + 1 ∧ (k : Int) < used then 3 else 0 := by
  funext k
  by_cases e : k = i
  · subst e; simp [h]
  · by_cases h' : k < i
    · simp [h', show k < i + 1 from by omega]
    · simp [h', show ¬ k < i + 1 from by omega]
/-- The new slots beside the configuration's box. -/
structure Sn (W w : World) (n B bs g1 g2 : Nat) (s : Sk) (o : Obj) : Prop where
  bel : Below W.heap.size W w
  sw : Sw w n bs g1 g2 s
  cfg : w.heap[B]? = some o
  d0 : B ≠ bs
  d1 : B ≠ g1
  d2 : B ≠ g2
  u0 : W.heap.size ≤ bs
  u1 : W.heap.size ≤ g1
  u2 : W.heap.size ≤ g2
section
variable {W w : World} {n B bs g1 g2 : Nat} {s : Sk} {o : Obj}
theorem Sn.drew (h : Sn W w n B bs g1 g2 s o) : Sn W w.drew n B bs g1 g2 s o := ⟨h.bel.drew, h.sw.drew, h.cfg, h.d0, h.d1, h.d2, h.u0, h.u1, h.u2⟩
theorem Sn.hd (h : Sn W w n B bs g1 g2 s o) (i : Nat) (hi : i < n) (v : Int) : Sn W (w.setCell ⟨g2, i, none⟩ (.int .i64 v)) n B bs g1 g2 { s with hd := updI s.hd i v } o :=
  ⟨h.bel.setCell (p := ⟨g2, i, none⟩) h.u2 _, h.sw.setHd i hi v, (Below.heap_setCell w ⟨g2, i, none⟩ _ B h.d2).trans h.cfg, h.d0, h.d1, h.d2, h.u0, h.u1, h.u2⟩
theorem Sn.st (h : Sn W w n B bs g1 g2 s o) (i : Nat) (hi : i < n) (v : Int) : Sn W (w.setCell ⟨g1, i, none⟩ (.int .i64 v)) n B bs g1 g2 { s with st := updI s.st i v } o :=
  ⟨h.bel.setCell (p := ⟨g1, i, none⟩) h.u1 _, h.sw.setSt i hi v, (Below.heap_setCell w ⟨g1, i, none⟩ _ B h.d1).trans h.cfg, h.d0, h.d1, h.d2, h.u0, h.u1, h.u2⟩
theorem Sn.cn (h : Sn W w n B bs g1 g2 s o) (i : Nat) (hi : i < 6) (v : Int) : Sn W (w.setCell ⟨bs, 2 + i, none⟩ (.int .i64 v)) n B bs g1 g2 { s with cn := updI s.cn i v } o :=
  ⟨h.bel.setCell (p := ⟨bs, _, none⟩) h.u0 _, h.sw.setCn i hi v, (Below.heap_setCell w ⟨bs, 2 + i, none⟩ _ B h.d0).trans h.cfg, h.d0, h.d1, h.d2, h.u0, h.u1, h.u2⟩
end
theorem sl_box {w : World} {b : Nat} {t : TypeId} {v1 v2 : Value} (h : w.heap[b]? = some (.cells #[v1, v2, .int .i64 0, .int .i64 0, .int .i64 0, .int .i64 0, .int .i64 0, .int .i64 0, .int .i64 0, .int .i64 0, .int .i64 0, .int .i64 0, .int .i64 0, .int .i64 0, .int .i64 0, .int .i64 0, .int .i64 0, .int .i64 0, .int .i64 0, .int .i64 0, .int .i64 0, .int .i64 0, .int .i64 0, .int .i64 0] t (0, 0))) : Box w b 24 (sf ⟨fun _ => 0, fun _ => 0, fun _ => 0, fun _ => 0⟩ v1 v2) := by
  refine ⟨_, _, h, fun k hk => ?_⟩
  have : k = 0 ∨ k = 1 ∨ (2 ≤ k ∧ k < 24) := by omega
  rcases this with rfl | rfl | ⟨h2, h24⟩
  · rfl
  · rfl
  · have : k = 2 ∨ k = 3 ∨ k = 4 ∨ k = 5 ∨ k = 6 ∨ k = 7 ∨ k = 8 ∨ k = 9 ∨ k = 10 ∨ k = 11 ∨ k = 12 ∨ k = 13 ∨ k = 14 ∨ k = 15 ∨ k = 16 ∨ k = 17 ∨ k = 18 ∨ k = 19 ∨ k = 20 ∨ k = 21 ∨ k = 22 ∨ k = 23 := by omega
    rcases this with rfl | rfl | rfl | rfl | rfl | rfl | rfl | rfl | rfl | rfl | rfl | rfl | rfl | rfl | rfl | rfl | rfl | rfl | rfl | rfl | rfl | rfl <;> rfl
theorem sn_new {W wa w1 w2 w3 : World} {n : Nat} {o : Obj} {t3 : TypeId} (hB : Below W.heap.size W wa) (hc : wa.heap[W.heap.size]? = some o) (x y : Nat) (ta tb : TypeId)
    (h1 : w1 = wa.alloc (.cells (zrow n) ta (0, 0))) (h2 : w2 = w1.alloc (.cells (zrow n) tb (0, 0))) (hx : x = wa.heap.size) (hy : y = wa.heap.size + 1) (g1 g2 : Nat) (hg : (g1 = x ∧ g2 = y) ∨ (g1 = y ∧ g2 = x))
    (h3 : w3 = w2.alloc (.cells #[.slice (some ⟨g1, 0, none⟩) n n, .slice (some ⟨g2, 0, none⟩) n n, .int .i64 0, .int .i64 0, .int .i64 0, .int .i64 0, .int .i64 0, .int .i64 0, .int .i64 0, .int .i64 0, .int .i64 0, .int .i64 0, .int .i64 0, .int .i64 0, .int .i64 0, .int .i64 0, .int .i64 0, .int .i64 0, .int .i64 0, .int .i64 0, .int .i64 0, .int .i64 0, .int .i64 0, .int .i64 0] t3 (0, 0))) : Sn W w3 n W.heap.size (wa.heap.size + 2) g1 g2 (skI 0 0) o := by
  have hl := (Array.getElem?_eq_some_iff.1 hc).1
  have hs := hB.size
  have e1 : w1.heap[wa.heap.size]? = some (.cells (zrow n) ta (0, 0)) := by rw [h1]; exact new_at _ _ _ rfl
  have s1 : w1.heap.size = wa.heap.size + 1 := by rw [h1]; simp
  have e2 : w2.heap[wa.heap.size + 1]? = some (.cells (zrow n) tb (0, 0)) := by rw [h2]; exact new_at _ _ _ (by rw [s1])
  have s2 : w2.heap.size = wa.heap.size + 2 := by rw [h2]; simp [s1]
  have e1' : w2.heap[wa.heap.size]? = some (.cells (zrow n) ta (0, 0)) := by rw [h2]; exact old_at e1 _
  have f1 : w3.heap[wa.heap.size]? = some (.cells (zrow n) ta (0, 0)) := by rw [h3]; exact old_at e1' _
  have f2 : w3.heap[wa.heap.size + 1]? = some (.cells (zrow n) tb (0, 0)) := by rw [h3]; exact old_at e2 _
  have f3 := new_at w2 (.cells #[.slice (some ⟨g1, 0, none⟩) n n, .slice (some ⟨g2, 0, none⟩) n n, .int .i64 0, .int .i64 0, .int .i64 0, .int .i64 0, .int .i64 0, .int .i64 0, .int .i64 0, .int .i64 0, .int .i64 0, .int .i64 0, .int .i64 0, .int .i64 0, .int .i64 0, .int .i64 0, .int .i64 0, .int .i64 0, .int .i64 0, .int .i64 0, .int .i64 0, .int .i64 0, .int .i64 0, .int .i64 0] t3 (0, 0)) (wa.heap.size + 2) s2.symm
  rw [← h3] at f3
  have z : (skI 0 0).st = (fun _ => 0) ∧ (skI 0 0).hd = (fun _ => 0) := ⟨by unfold skI; funext k; simp, by unfold skI; funext k; simp⟩
  have fc : w3.heap[W.heap.size]? = some o := by rw [h3]; exact old_at (by rw [h2]; exact old_at (by rw [h1]; exact old_at hc _) _) _
  have B3 : Below W.heap.size W w3 := by
    rw [h3, h2, h1]
    exact ((hB.alloc hs _).alloc (by simp; omega) _).alloc (by simp; omega) _
  have r1 : Box w3 g1 n (ntF (skI 0 0).st) := by
    rw [z.1]
    rcases hg with ⟨rfl, rfl⟩ | ⟨rfl, rfl⟩
    · subst hx; exact zrow_box f1
    · subst hy; exact zrow_box f2
  have r2 : Box w3 g2 n (ntF (skI 0 0).hd) := by
    rw [z.2]
    rcases hg with ⟨rfl, rfl⟩ | ⟨rfl, rfl⟩
    · subst hy; exact zrow_box f2
    · subst hx; exact zrow_box f1
  exact ⟨B3, ⟨sl_box f3, r1, r2, by omega, by omega, by omega⟩, fc, by omega, by omega, by omega, by omega, by omega, by omega⟩
set_option maxHeartbeats 8000000 in
theorem slotsOf_any (c : Nat → Int) (n used : Nat) (hc : c 5 = (n : Int)) (hn : n ≤ 1024) (hu : used ≤ n) (W : World) :
    Calls Tryz.prog 43 #[cfgV c, .int .i64 (used : Int)] W fun e w' => Below W.heap.size W w' ∧ ∃ bs g1 g2, e = .returned (.pointer (some ⟨bs, 0, none⟩)) ∧ Sw w' n bs g1 g2 (sk0 n used) ∧ W.heap.size ≤ bs ∧ W.heap.size ≤ g1 ∧ W.heap.size ≤ g2 := by
  unfold cfgV
  rw [hc]
  generalize c 0 = c0 at *
  generalize c 1 = c1 at *
  generalize c 2 = c2 at *
  generalize c 3 = c3 at *
  generalize c 4 = c4 at *
  generalize c 6 = c6 at *
  replace hc := Mr.hid hc
  have M1 := fun W => make_st W n (by omega)
  have M2 := fun W => make_in W n (by omega)
  have HB : Hid (Below W.heap.size W (W.alloc (.cells #[.int .i64 c0, .int .i64 c1, .int .i64 c2, .int .i64 c3, .int .i64 c4, .int .i64 (n : Int), .int .i64 c6] 23 (0, 0)))) := (Below.refl _ _).alloc (Nat.le_refl _) _
  have HC : Hid ((W.alloc (.cells #[.int .i64 c0, .int .i64 c1, .int .i64 c2, .int .i64 c3, .int .i64 c4, .int .i64 (n : Int), .int .i64 c6] 23 (0, 0))).heap[W.heap.size]? = some (.cells #[.int .i64 c0, .int .i64 c1, .int .i64 c2, .int .i64 c3, .int .i64 c4, .int .i64 (n : Int), .int .i64 c6] 23 (0, 0))) := heap_alloc_new _ _
  go_enter Tryz.func43, Tryz.ntmps43
  go_upto_region 1 with (fail)
  generalize (W.alloc _) = wa at *
  have hl := (Array.getElem?_eq_some_iff.1 HC.out).1
  have k5 : wa.cell? ⟨W.heap.size, 5, none⟩ = some (.int .i64 (n : Int)) := by rw [cell_blk HC.out]; rfl
  go_cut [5] (fun s5 wx => ∃ bs g1 g2 : Nat, s5 = .pointer (some ⟨bs, 0, none⟩) ∧ Sn W wx n W.heap.size bs g1 g2 (skI 0 0) (.cells #[.int .i64 c0, .int .i64 c1, .int .i64 c2, .int .i64 c3, .int .i64 c4, .int .i64 (n : Int), .int .i64 c6] 23 (0, 0)))
  case first =>
    go_region
    · go_wp2
      go_meet
      case rel => exact ⟨_, _, _, rfl, (sn_new HB.out HC.out _ _ _ _ rfl rfl rfl rfl _ _ (.inl ⟨rfl, rfl⟩) rfl).drew⟩
    · go_wp2
      go_meet
      case rel => exact ⟨_, _, _, rfl, (sn_new HB.out HC.out _ _ _ _ rfl rfl rfl rfl _ _ (.inr ⟨rfl, rfl⟩) rfl).drew⟩
  case rest =>
    obtain ⟨bs, g1, g2, rfl, N0⟩ := hcut
    clear k5 hl HB HC M1 M2
    have k5 : wc.cell? ⟨W.heap.size, 5, none⟩ = some (.int .i64 (n : Int)) := by rw [cell_blk N0.cfg]; rfl
    have hl := (Array.getElem?_eq_some_iff.1 N0.cfg).1
    replace N0 := Mr.hid N0
    go_wp2
    clear k5 hl
    go_loopg [17] n (fun gk s17 wr => ∃ i : Nat, s17 = .int .i64 (i : Int) ∧ i + gk = n ∧ Sn W wr n W.heap.size bs g1 g2 (skI used i) (.cells #[.int .i64 c0, .int .i64 c1, .int .i64 c2, .int .i64 c3, .int .i64 c4, .int .i64 (n : Int), .int .i64 c6] 23 (0, 0)))
    case atStart => exact ⟨0, rfl, by omega, by rw [skI_00]; exact N0.out⟩
    case round =>
      clear N0
      obtain ⟨i, rfl, hi, N⟩ := hrel
      have k5 : wr.cell? ⟨W.heap.size, 5, none⟩ = some (.int .i64 (n : Int)) := by rw [cell_blk N.cfg]; rfl
      have hl := (Array.getElem?_eq_some_iff.1 N.cfg).1
      have e0 := N.sw.c0
      have e1 := N.sw.c1
      have l0 := N.sw.box.lt
      have l1 := N.sw.r1.lt
      have l2 := N.sw.r2.lt
      have d0 := N.d0
      have d1 := N.d1
      have d2 := N.d2
      have d3 := N.sw.d1
      have d4 := N.sw.d2
      have d5 := N.sw.d3
      have d0' := Ne.symm d0
      have d1' := Ne.symm d1
      have d2' := Ne.symm d2
      have d3' := Ne.symm d3
      have d4' := Ne.symm d4
      have d5' := Ne.symm d5
      by_cases hlt : i < n
      · have hlI : (i : Int) < (n : Int) := by omega
        have r1 := N.sw.r1.cell i hlt
        have r2 := N.sw.r2.cell i hlt
        have f1 := N.sw.r1.live i
        have f2 := N.sw.r2.live i
        unfold ntF at r1 r2
        by_cases hus : i < used
        · have hus' : (i : Int) < (used : Int) := by omega
          have N2 : Hid (Sn W ((wr.setCell ⟨g2, i, none⟩ (.int .i64 (-1))).setCell ⟨g1, i, none⟩ (.int .i64 3)) n W.heap.size bs g1 g2 (skI used (i + 1)) (.cells #[.int .i64 c0, .int .i64 c1, .int .i64 c2, .int .i64 c3, .int .i64 c4, .int .i64 (n : Int), .int .i64 c6] 23 (0, 0))) := by
            have h := (N.hd i hlt (-1)).st i hlt 3
            have e : ({ ({ skI used i with hd := updI (skI used i).hd i (-1) } : Sk) with st := updI (skI used i).st i 3 } : Sk) = skI used (i + 1) := by
              unfold skI; simp only; rw [upd_hd, upd_st_y hus']
            rw [← e]; exact h
          replace N := Mr.hid N
          go_wp2
          go_roundg (gk - 1)
          case measure => omega
          case rel => exact ⟨i + 1, by simp, by omega, N2.out⟩
        · have hus' : ¬ (i : Int) < (used : Int) := by omega
          have q1 : decide ((i : Int) < (used : Int)) = false := decide_eq_false hus'
          have q2 : decide (i < used) = false := decide_eq_false hus
          have N2 : Hid (Sn W (wr.setCell ⟨g2, i, none⟩ (.int .i64 (-1))) n W.heap.size bs g1 g2 (skI used (i + 1)) (.cells #[.int .i64 c0, .int .i64 c1, .int .i64 c2, .int .i64 c3, .int .i64 c4, .int .i64 (n : Int), .int .i64 c6] 23 (0, 0))) := by
            have h := N.hd i hlt (-1)
            have e : ({ skI used i with hd := updI (skI used i).hd i (-1) } : Sk) = skI used (i + 1) := by
              unfold skI; simp only; rw [upd_hd, upd_st_n hus']
            rw [← e]; exact h
          replace N := Mr.hid N
          go_wp2
          go_roundg (gk - 1)
          case measure => omega
          case rel => exact ⟨i + 1, by simp, by omega, N2.out⟩
      · have hie : i = n := by omega
        have q1 : decide ((i : Int) < (n : Int)) = false := decide_eq_false (by omega)
        have q2 : decide (i < n) = false := decide_eq_false hlt
        have z3 := N.sw.cn 3 (by omega)
        have z0 := N.sw.cn 0 (by omega)
        have f3 := N.sw.box.live 5
        have f0 := N.sw.box.live 2
        have NN := Mr.hid (((N.cn 3 (by omega) used).cn 0 (by omega) ((n : Int) - used)).drew)
        have hF : Hid (∀ w', Sw w' n bs g1 g2 { ({ skI used i with cn := updI (skI used i).cn 3 used } : Sk) with cn := updI (updI (skI used i).cn 3 used) 0 ((n : Int) - used) } → Sw w' n bs g1 g2 (sk0 n used)) := fun w' h => h.congr (fun k hk => by
          unfold skI sk0
          simp only
          by_cases e : (k : Int) < (used : Int)
          · rw [if_pos ⟨by omega, e⟩, if_pos e]
          · rw [if_neg (fun h => e h.2), if_neg e]) (fun k hk => by
          unfold skI sk0
          simp only
          rw [if_pos (by omega)]) (fun k hk => by
          unfold skI sk0 updI
          simp only
          by_cases e0 : k = 0
          · simp [e0]
          · by_cases e3 : k = 3
            · simp [e3]
            · simp [e0, e3]) (fun k hk => rfl)
        have s3 : Hid ((wr.setCell ⟨bs, 2 + 3, none⟩ (.int .i64 used)).heap[W.heap.size]? = some (.cells #[.int .i64 c0, .int .i64 c1, .int .i64 c2, .int .i64 c3, .int .i64 c4, .int .i64 (n : Int), .int .i64 c6] 23 (0, 0))) := (Below.heap_setCell _ ⟨bs, 2 + 3, none⟩ _ _ d0).trans N.cfg
        have uI : (used : Int) ≤ 1024 := by omega
        replace hie := Mr.hid hie
        replace N := Mr.hid N
        go_upto_region 10 with (fail)
        have w5 : (wr.setCell ⟨bs, 5, none⟩ (.int .i64 used)).cell? ⟨W.heap.size, 5, none⟩ = some (.int .i64 (n : Int)) := by rw [cell_blk s3.out]; rfl
        have w2 := (N.out.cn 3 (by omega) used).sw.cn 0 (by omega)
        have w20 := (N.out.cn 3 (by omega) used).sw.box.live 2
        have w2l := (N.out.cn 3 (by omega) used).sw.box.lt
        go_region
        go_wp2
        go_ret
        exact ⟨NN.out.bel, bs, rfl, g1, g2, hF.out _ NN.out.sw, NN.out.u0, NN.out.u1, NN.out.u2⟩
end Go.Proofs.YtpknggcgojkjgaaGreat.Cn
