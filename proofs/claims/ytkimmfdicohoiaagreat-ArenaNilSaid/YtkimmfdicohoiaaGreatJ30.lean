import Derived.Test.YtkimmfdicohoiaaGreatJ22
import Derived.Test.YtkimmfdicohoiaaGreatJ15
import Derived.Test.YtkimmfdicohoiaaGreatJ23
import Derived.Test.YtkimmfdicohoiaaGreatJ24
import Derived.Test.YtkimmfdicohoiaaGreatJ25
import Derived.Test.YtkimmfdicohoiaaGreatJ26
import Derived.Test.YtkimmfdicohoiaaGreatJ27
import Derived.Test.YtkimmfdicohoiaaGreatJ28
import Derived.Test.YtkimmfdicohoiaaGreatJ29
import Derived.Test.YtkimmfdicohoiaaGreatJ19
import Derived.Shelf.Abstract
/-
  WHAT THE PARTS' runs do, by the arena without the model.
-/
namespace Go.Proofs.YtkimmfdicohoiaaGreat.Ar
open Go.RowKit Mr Me Ma Wc Wm
/-- The machine's state is the one without the model, but for the threads. -/
structure St (P : Pa) (s : Ss) : Prop where
  n : s.n = P.n
  cls : s.cls = P.cls
  shs : s.shs = P.shs
  ws : s.ws = P.ws
  lg : s.lg = P.lg
  ah : s.ah.length ≤ P.lg.length
/-- The arena's configuration. -/
structure Cq (q : Pl) (P : Pa) : Prop where
  m : q.c.m = P.m
  K : q.c.a4 = P.K
section
variable {q : Pl} {sp : Bool} {s : Ss} {P : Pa} {b : Nat} {k : Pk} {W : World}
theorem St.roomy (h : St P s) (hI : Inv P b) : Me.Roomy s.lg s.ah := by
  have h1 := hI.bd
  have h2 := hI.lg
  have h3 := h.ah
  rw [h.lg]
  exact ⟨by omega, by omega⟩
theorem St.w0 (h : St P s) (hI : Inv P b) : 0 < s.ws.length := by
  have := hI.ml
  have := hI.m0
  rw [h.ws]
  omega
theorem St.at (h : St P s) (ad : Nat) : s.ws[ad]?.getD 0 = P.word ad := by rw [h.ws]; rfl
theorem St.sh (h : St P s) (hI : Inv P b) : s.shs.length ≤ 100000 := by
  have h1 := hI.bd
  have h2 := hI.shs
  rw [h.shs]
  omega
theorem Inv.spare (hI : Inv P b) (hc : Cq q P) {x : Int} (hx : P.A.has x) : q.c.m + x = (P.spare x : Nat) ∧ P.spare x < P.ws.length := by
  have := hI.ml
  have := hc.m
  unfold Ao.has at hx
  unfold Pa.spare
  omega
theorem Hd.low (hI : Inv P b) {x : Int} (h : Hd P x) : x % 4294967296 ≤ 2147483647 := by
  have := h.2.2.1
  have := hI.ns
  omega
theorem take_run (h : Rn q false s P.A (tkA q k) W) (hs : St P s) (hI : Inv P b) (hc : Cq q P) (hT : Tok P q.i false .take k) :
    Calls Tryz.prog 71 #[.pointer (some ⟨q.bt, 0, none⟩), .agg #[.pointer (some ⟨q.p.bd, 0, none⟩), .int .i64 1]] W fun e w' => e = .returned (.bool (P.stepP q.i q.now k .take).2.2) ∧ ∃ s', Rn q true s' (P.stepP q.i q.now k .take).1.A (tkA q (P.stepP q.i q.now k .take).2.1) w' ∧ St (P.stepP q.i q.now k .take).1 s' ∧ s'.ths = s.ths := by
  have hb := hs.roomy hI
  have h0 := hs.w0 hI
  have hah := hs.ah
  obtain ⟨t0, t1⟩ := hT
  simp only [Bool.false_eq_true, if_false] at t1
  obtain ⟨t1, t2⟩ := t1
  have e0 := hs.at 0
  rcases t2 with t2 | ⟨t2, t3, t4, t5, t6⟩
  · have x0 := (hI.word 0)
    rw [← e0] at x0
    by_cases hh : P.A.has (firstOf (P.word 0))
    · simp only [Pa.stepP, if_pos t2, if_pos hh]
      refine (take_load h t2 hb h0 x0.1 x0.2 (by rw [e0]; exact hh)).mono ?_
      rintro e w' ⟨rfl, h1⟩
      rw [e0] at h1
      refine ⟨rfl, _, h1, ⟨hs.n, hs.cls, hs.shs, hs.ws, ?_, ?_⟩, rfl⟩
      · simp [Ss.loads, Pa.load, hs.lg, hs.at 0]
      · simp [Ss.loads, Pa.load]; omega
    · simp only [Pa.stepP, if_pos t2, if_neg hh]
      refine (take_full h t2 hb h0 x0.1 x0.2 (by rw [e0]; exact hh)).mono ?_
      rintro e w' ⟨rfl, h1⟩
      rw [e0] at h1
      refine ⟨rfl, _, h1, ⟨hs.n, hs.cls, hs.shs, hs.ws, ?_, ?_⟩, rfl⟩
      · simp [Ss.loads, Pa.load, hs.lg, hs.at 0]
      · simp [Ss.loads, Pa.load]; omega
  · rcases t2 with t2 | t2
    · simp only [Pa.stepP, if_neg (show ¬ k.nx = 5 by omega), if_pos t2]
      obtain ⟨m1, m2⟩ := hI.spare hc t3
      refine (take_spare h t2 hb t3 (P.spare k.sl) m1 (by rw [hs.ws]; exact m2)).mono ?_
      rintro e w' ⟨rfl, h1⟩
      rw [hs.at] at h1
      refine ⟨rfl, _, h1, ⟨hs.n, hs.cls, hs.shs, hs.ws, ?_, ?_⟩, rfl⟩
      · simp [Ss.loads, Pa.load, hs.lg, hs.at]
      · simp [Ss.loads, Pa.load]; omega
    · obtain ⟨⟨b0, b1⟩, _⟩ := t6 t2
      by_cases hw : P.word 0 = k.hd
      · simp only [Pa.stepP, if_neg (show ¬ k.nx = 5 by omega), if_neg (show ¬ k.nx = 6 by omega), if_pos hw]
        refine (take_hit h t2 hb (hs.sh hI) t3 h0 t5.1 t5.2.1 (t5.low hI) b0 b1 (by rw [e0]; exact hw)).mono ?_
        rintro e w' ⟨rfl, h1⟩
        refine ⟨rfl, _, h1, ⟨hs.n, hs.cls, ?_, ?_, ?_, ?_⟩, rfl⟩
        · simp [Ss.hits, Ss.shifts, Pa.shift, Pa.hit, hs.shs]
        · simp [Ss.hits, Ss.shifts, Pa.shift, Pa.hit, hs.ws]
        · simp [Ss.hits, Ss.shifts, Pa.shift, Pa.hit, hs.lg]
        · simp [Ss.hits, Ss.shifts, Pa.shift, Pa.hit]; omega
      · simp only [Pa.stepP, if_neg (show ¬ k.nx = 5 by omega), if_neg (show ¬ k.nx = 6 by omega), if_neg hw]
        refine (take_miss h t2 hb h0 t5.1 t5.2.1 (t5.low hI) b0 b1 (by rw [e0]; exact hw)).mono ?_
        rintro e w' ⟨rfl, h1⟩
        refine ⟨rfl, _, h1, ⟨hs.n, hs.cls, hs.shs, hs.ws, ?_, ?_⟩, rfl⟩
        · simp [Ss.misses, Pa.miss, hs.lg, hs.at]
        · simp [Ss.misses, Pa.miss]; omega
end
end Go.Proofs.YtkimmfdicohoiaaGreat.Ar
/-
  WHAT THE PARTS' runs do, by the arena without the model: giving and flushing; and what Ready does.
-/
namespace Go.Proofs.YtkimmfdicohoiaaGreat.Ar
open Go.RowKit Mr Me Ma Wc Wm
section
variable {q : Pl} {sp : Bool} {s : Ss} {P : Pa} {b : Nat} {k : Pk} {W : World}
theorem Inv.slsmall (hI : Inv P b) {x : Int} (hx : P.A.has x) : x ≤ 2147483646 := by
  have := hI.ns
  unfold Ao.has at hx
  omega
theorem give_run (h : Rn q false s P.A (gvA q k 0) W) (hs : St P s) (hI : Inv P b) (hc : Cq q P) (hT : Tok P q.i false .give k) :
    Calls Tryz.prog 74 #[.pointer (some ⟨q.bt, 0, none⟩), .agg #[.pointer (some ⟨q.p.bd, 0, none⟩), .int .i64 1]] W fun e w' => e = .returned (.bool (P.stepP q.i q.now k .give).2.2) ∧ ∃ s', Rn q true s' (P.stepP q.i q.now k .give).1.A (gvA q (P.stepP q.i q.now k .give).2.1 0) w' ∧ St (P.stepP q.i q.now k .give).1 s' ∧ s'.ths = s.ths := by
  have hb := hs.roomy hI
  have h0 := hs.w0 hI
  have hah := hs.ah
  obtain ⟨t1, _, t3⟩ := hT
  simp only [Bool.false_eq_true, if_false] at t3
  have e0 := hs.at 0
  rw [stepP_give]
  rcases t3 with t3 | ⟨t3, t4⟩ | ⟨t3, t4, t5⟩
  · simp only [givP, if_pos t3]
    refine (give_load h t3 hb h0).mono ?_
    rintro e w' ⟨rfl, h1⟩
    rw [e0] at h1
    refine ⟨rfl, _, h1, ⟨hs.n, hs.cls, hs.shs, hs.ws, ?_, ?_⟩, rfl⟩
    · simp [Ss.loads, Pa.load, hs.lg, hs.at 0]
    · simp [Ss.loads, Pa.load]; omega
  · simp only [givP, if_neg (show ¬ k.nx = 5 by omega), if_pos t3]
    obtain ⟨m1, m2⟩ := hI.spare hc t1
    refine (give_store h t3 hb t1 (P.spare k.sl) m1 (by rw [hs.ws]; exact m2) t4.1 t4.2.1).mono ?_
    rintro e w' ⟨rfl, h1⟩
    refine ⟨rfl, _, h1, ⟨hs.n, hs.cls, hs.shs, ?_, ?_, ?_⟩, rfl⟩
    · simp [Ss.stores, Pa.store, hs.ws]
    · simp [Ss.stores, Pa.store, hs.lg]
    · simp [Ss.stores, Pa.store]; omega
  · by_cases hw : P.word 0 = k.hd
    · simp only [givP, if_neg (show ¬ k.nx = 5 by omega), if_neg (show ¬ k.nx = 7 by omega), if_pos hw, Bool.false_eq_true, if_false]
      refine (give_hit h t3 (hs.sh hI) hb t1 (hI.slsmall t1) h0 t4.1 t4.2.1 (t4.low hI) (by rw [e0]; exact hw)).mono ?_
      rintro e w' ⟨rfl, h1⟩
      refine ⟨rfl, _, h1, ⟨hs.n, hs.cls, ?_, ?_, ?_, ?_⟩, rfl⟩
      · simp [Ss.hits, Ss.shifts, Pa.shift, Pa.hit, hs.shs]
      · simp [Ss.hits, Ss.shifts, Pa.shift, Pa.hit, hs.ws]
      · simp [Ss.hits, Ss.shifts, Pa.shift, Pa.hit, hs.lg]
      · simp [Ss.hits, Ss.shifts, Pa.shift, Pa.hit]; omega
    · simp only [givP, if_neg (show ¬ k.nx = 5 by omega), if_neg (show ¬ k.nx = 7 by omega), if_neg hw]
      refine (give_miss h t3 hb t1 (hI.slsmall t1) h0 t4.1 t4.2.1 (t4.low hI) (by rw [e0]; exact hw)).mono ?_
      rintro e w' ⟨rfl, h1⟩
      refine ⟨rfl, _, h1, ⟨hs.n, hs.cls, hs.shs, hs.ws, ?_, ?_⟩, rfl⟩
      · simp [Ss.misses, Pa.miss, hs.lg, hs.at]
      · simp [Ss.misses, Pa.miss]; omega
theorem flush_run (h : Rn q false s P.A (gvA q k 4) W) (hs : St P s) (hI : Inv P b) (hc : Cq q P) (hi : q.i < P.pts.length) (hT : Tok P q.i false .flush k) :
    Calls Tryz.prog 74 #[.pointer (some ⟨q.bt, 0, none⟩), .agg #[.pointer (some ⟨q.p.bd, 0, none⟩), .int .i64 1]] W fun e w' => e = .returned (.bool (P.stepP q.i q.now k .flush).2.2) ∧ ∃ s', Rn q true s' (P.stepP q.i q.now k .flush).1.A (gvA q (P.stepP q.i q.now k .flush).2.1 4) w' ∧ St (P.stepP q.i q.now k .flush).1 s' ∧ s'.ths = s.ths := by
  have hb := hs.roomy hI
  have h0 := hs.w0 hI
  have hah := hs.ah
  simp only [Tok, Bool.false_eq_true, if_false] at hT
  obtain ⟨t1, t2, t3⟩ := hT
  have e0 := hs.at 0
  have hic : q.i < P.A.ca.length := by rw [hI.kc]; exact hi
  rw [stepP_flush]
  rcases t3 with t3 | ⟨t3, t4⟩ | ⟨t3, t4, t5⟩
  · simp only [givP, if_pos t3]
    refine (give_load h t3 hb h0).mono ?_
    rintro e w' ⟨rfl, h1⟩
    rw [e0] at h1
    refine ⟨rfl, _, h1, ⟨hs.n, hs.cls, hs.shs, hs.ws, ?_, ?_⟩, rfl⟩
    · simp [Ss.loads, Pa.load, hs.lg, hs.at 0]
    · simp [Ss.loads, Pa.load]; omega
  · simp only [givP, if_neg (show ¬ k.nx = 5 by omega), if_pos t3]
    obtain ⟨m1, m2⟩ := hI.spare hc t1
    refine (give_store h t3 hb t1 (P.spare k.sl) m1 (by rw [hs.ws]; exact m2) t4.1 t4.2.1).mono ?_
    rintro e w' ⟨rfl, h1⟩
    refine ⟨rfl, _, h1, ⟨hs.n, hs.cls, hs.shs, ?_, ?_, ?_⟩, rfl⟩
    · simp [Ss.stores, Pa.store, hs.ws]
    · simp [Ss.stores, Pa.store, hs.lg]
    · simp [Ss.stores, Pa.store]; omega
  · by_cases hw : P.word 0 = k.hd
    · simp only [givP, if_neg (show ¬ k.nx = 5 by omega), if_neg (show ¬ k.nx = 7 by omega), if_pos hw, if_true]
      obtain ⟨m, hm⟩ : ∃ m, P.A.cache q.i = m ++ [k.sl] := by
        rcases hI.last hi with ⟨e1, _⟩ | ⟨l, x, e1, _⟩
        · rw [e1] at t2; cases t2
        · rw [e1] at t2
          simp at t2
          exact ⟨l, by rw [e1, t2]⟩
      have hnm : k.sl ∉ m := fun hmem => by
        have := (hI.ca q.i _ (hI.cacheEq hi)).1
        rw [hm] at this
        exact (List.nodup_append.1 this).2.2 _ hmem _ (by simp) rfl
      have hca : ((P.hit q.i q.now 0 k.hd (headBehind k.hd k.sl)).shift q.i q.now k.sl 0).A.cache q.i = m ++ [k.sl] := hm
      simp only [Pa.next, hca, List.dropLast_concat]
      have hA : (((P.hit q.i q.now 0 k.hd (headBehind k.hd k.sl)).shift q.i q.now k.sl 0).keep q.i m).A = (P.A.put k.sl 0 q.i).keep q.i m := rfl
      by_cases hl : ((P.A.put k.sl 0 q.i).keep q.i m).last q.i = -1
      · rw [hA, if_pos hl]
        refine (flush_end h t3 (hs.sh hI) hic m hm hnm hb t1 (hI.slsmall t1) h0 t4.1 t4.2.1 (t4.low hI) (by rw [e0]; exact hw) hl).mono ?_
        rintro e w' ⟨rfl, h1⟩
        refine ⟨rfl, _, h1, ⟨hs.n, hs.cls, ?_, ?_, ?_, ?_⟩, rfl⟩
        · simp [Ss.hits, Ss.shifts, Pa.shift, Pa.hit, Pa.keep, hs.shs]
        · simp [Ss.hits, Ss.shifts, Pa.shift, Pa.hit, Pa.keep, hs.ws]
        · simp [Ss.hits, Ss.shifts, Pa.shift, Pa.hit, Pa.keep, hs.lg]
        · simp [Ss.hits, Ss.shifts, Pa.shift, Pa.hit, Pa.keep]; omega
      · rw [hA, if_neg hl]
        refine (flush_more h t3 (hs.sh hI) hic m hm hnm hb t1 (hI.slsmall t1) h0 t4.1 t4.2.1 (t4.low hI) (by rw [e0]; exact hw) _ hl rfl).mono ?_
        rintro e w' ⟨rfl, h1⟩
        refine ⟨rfl, _, h1, ⟨hs.n, hs.cls, ?_, ?_, ?_, ?_⟩, rfl⟩
        · simp [Ss.hits, Ss.shifts, Pa.shift, Pa.hit, Pa.keep, hs.shs]
        · simp [Ss.hits, Ss.shifts, Pa.shift, Pa.hit, Pa.keep, hs.ws]
        · simp [Ss.hits, Ss.shifts, Pa.shift, Pa.hit, Pa.keep, hs.lg]
        · simp [Ss.hits, Ss.shifts, Pa.shift, Pa.hit, Pa.keep]; omega
    · simp only [givP, if_neg (show ¬ k.nx = 5 by omega), if_neg (show ¬ k.nx = 7 by omega), if_neg hw]
      refine (give_miss h t3 hb t1 (hI.slsmall t1) h0 t4.1 t4.2.1 (t4.low hI) (by rw [e0]; exact hw)).mono ?_
      rintro e w' ⟨rfl, h1⟩
      refine ⟨rfl, _, h1, ⟨hs.n, hs.cls, hs.shs, hs.ws, ?_, ?_⟩, rfl⟩
      · simp [Ss.misses, Pa.miss, hs.lg, hs.at]
      · simp [Ss.misses, Pa.miss]; omega
theorem take_rdy (h : Rn q sp s P.A (tkA q k) W) (hs : St P s) (hI : Inv P b) (hi : q.i < P.pts.length) (hT : Tok P q.i true .take k) :
    Calls Tryz.prog 71 #[.pointer (some ⟨q.bt, 0, none⟩), .agg #[.pointer (some ⟨q.p.bd, 0, none⟩), .int .i64 0]] W fun e w' => e = .returned (.bool (P.ready q.i q.now k .take).2.2) ∧ ∃ s', Rn q sp s' (P.ready q.i q.now k .take).1.A (tkA q (P.ready q.i q.now k .take).2.1) w' ∧ St (P.ready q.i q.now k .take).1 s' ∧ s'.ths = s.ths := by
  have hic : q.i < P.A.ca.length := by rw [hI.kc]; exact hi
  obtain ⟨_, t1⟩ := hT
  simp only [if_true] at t1
  rcases hI.last hi with ⟨e1, e2⟩ | ⟨l, x, e1, e2, e3, e4, e5⟩
  · simp only [Pa.ready, if_pos e2]
    refine (take_none h t1 hic e2).mono ?_
    rintro e w' ⟨rfl, h1⟩
    exact ⟨rfl, _, h1, hs, rfl⟩
  · simp only [Pa.ready, if_neg (show ¬ P.A.last q.i = -1 by omega)]
    have hnm : x ∉ l := fun hmem => by
      have := (hI.ca q.i _ (hI.cacheEq hi)).1
      rw [e1] at this
      exact (List.nodup_append.1 this).2.2 _ hmem _ (by simp) rfl
    rw [e2, e1, List.dropLast_concat]
    refine (take_some h t1 (hs.sh hI) hic l x e1 hnm e4).mono ?_
    rintro e w' ⟨rfl, h1⟩
    refine ⟨rfl, _, h1, ⟨hs.n, hs.cls, ?_, hs.ws, hs.lg, hs.ah⟩, rfl⟩
    simp only [Ss.shifts, Pa.shift, Pa.keep, hs.shs]
    rfl
theorem give_rdy (h : Rn q sp s P.A (gvA q k 0) W) (hq : q.WS.heap.size ≤ W.heap.size) (hs : St P s) (hI : Inv P b) (hc : Cq q P) (hi : q.i < P.pts.length) (hK : P.K ≤ 64) (hT : Tok P q.i true .give k) :
    Calls Tryz.prog 74 #[.pointer (some ⟨q.bt, 0, none⟩), .agg #[.pointer (some ⟨q.p.bd, 0, none⟩), .int .i64 0]] W fun e w' => e = .returned (.bool (P.ready q.i q.now k .give).2.2) ∧ ∃ s', Rn q sp s' (P.ready q.i q.now k .give).1.A (gvA q (P.ready q.i q.now k .give).2.1 0) w' ∧ St (P.ready q.i q.now k .give).1 s' ∧ s'.ths = s.ths := by
  have hic : q.i < P.A.ca.length := by rw [hI.kc]; exact hi
  obtain ⟨t1, _, t3⟩ := hT
  simp only [if_true] at t3
  by_cases hr : (P.A.cache q.i).length < P.K
  · simp only [Pa.ready, if_pos hr]
    refine (give_room h hq t3 (hs.sh hI) hic (by omega) P.K hc.K hr t1).mono ?_
    rintro e w' ⟨rfl, h1⟩
    refine ⟨rfl, _, h1, ⟨hs.n, hs.cls, ?_, hs.ws, hs.lg, hs.ah⟩, rfl⟩
    simp only [Ss.shifts, Pa.shift, Pa.keep, hs.shs]
    rfl
  · simp only [Pa.ready, if_neg hr]
    refine (give_none h t3 hic P.K hc.K hr).mono ?_
    rintro e w' ⟨rfl, h1⟩
    exact ⟨rfl, _, h1, hs, rfl⟩
theorem flush_rdy (h : Rn q sp s P.A (gvA q k 4) W) (hs : St P s) (hI : Inv P b) (hi : q.i < P.pts.length) (hT : Tok P q.i true .flush k) :
    Calls Tryz.prog 74 #[.pointer (some ⟨q.bt, 0, none⟩), .agg #[.pointer (some ⟨q.p.bd, 0, none⟩), .int .i64 0]] W fun e w' => e = .returned (.bool (P.ready q.i q.now k .flush).2.2) ∧ ∃ s', Rn q sp s' (P.ready q.i q.now k .flush).1.A (gvA q (P.ready q.i q.now k .flush).2.1 4) w' ∧ St (P.ready q.i q.now k .flush).1 s' ∧ s'.ths = s.ths := by
  have hic : q.i < P.A.ca.length := by rw [hI.kc]; exact hi
  simp only [Tok, if_true] at hT
  by_cases hl : P.A.last q.i = -1
  · simp only [Pa.ready, if_pos hl]
    refine (pick_none h hT hic hl).mono ?_
    rintro e w' ⟨rfl, h1⟩
    exact ⟨rfl, _, h1, hs, rfl⟩
  · simp only [Pa.ready, if_neg hl]
    refine (pick_some h hT hic _ hl rfl).mono ?_
    rintro e w' ⟨rfl, h1⟩
    exact ⟨rfl, _, h1, hs, rfl⟩
end
end Go.Proofs.YtkimmfdicohoiaaGreat.Ar
/-
  machine.work over the arena's tasks, by the arena without the model.
-/
namespace Go.Proofs.YtkimmfdicohoiaaGreat.Ar
open Go.RowKit Mr Me Ma Wc Wm
theorem mT0 (a : Addr) (n : Nat) (w : World) : (method (n + 1) 119 (.pointer (some a)) "Ready").run Tryz.prog w = .ok (166, .pointer (some a)) w := by kernel_rfl
theorem mT1 (a : Addr) (n : Nat) (w : World) : (method (n + 1) 119 (.pointer (some a)) "Step").run Tryz.prog w = .ok (167, .pointer (some a)) w := by kernel_rfl
theorem mG0 (a : Addr) (n : Nat) (w : World) : (method (n + 1) 74 (.pointer (some a)) "Ready").run Tryz.prog w = .ok (33, .pointer (some a)) w := by kernel_rfl
theorem mG1 (a : Addr) (n : Nat) (w : World) : (method (n + 1) 74 (.pointer (some a)) "Step").run Tryz.prog w = .ok (34, .pointer (some a)) w := by kernel_rfl
theorem mF0 (a : Addr) (n : Nat) (w : World) : (method (n + 1) 76 (.pointer (some a)) "Ready").run Tryz.prog w = .ok (35, .pointer (some a)) w := by kernel_rfl
theorem mF1 (a : Addr) (n : Nat) (w : World) : (method (n + 1) 76 (.pointer (some a)) "Step").run Tryz.prog w = .ok (36, .pointer (some a)) w := by kernel_rfl
section
variable {q : Pl} {sp fr : Bool} {s : Ss} {P : Pa} {b : Nat} {k : Pk} {W : World}
/-- What a take has taken is a slot. -/
theorem took (hI : Inv P b) (hi : q.i < P.pts.length) (hT : Tok P q.i fr .take k) (he : (P.work q.i q.now fr .take k).2.2 = true) (ht : (P.work q.i q.now fr .take k).2.1.tk = true) : (P.work q.i q.now fr .take k).2.1.sl ≠ -1 := by
  have key : ∀ k', Tok P q.i false .take k' → (P.stepP q.i q.now k' .take).2.1.tk = true → (P.stepP q.i q.now k' .take).2.1.sl ≠ -1 := fun k' hk' ht' => by
    obtain ⟨t0, t1⟩ := hk'
    simp only [Bool.false_eq_true, if_false] at t1
    obtain ⟨_, t2⟩ := t1
    rcases t2 with t2 | ⟨t2, t3, _⟩
    · simp only [Pa.stepP, if_pos t2] at ht'
      split at ht' <;> simp [t0] at ht'
    · have := t3.1
      rcases t2 with t2 | t2
      · simp only [Pa.stepP, if_neg (show ¬ k'.nx = 5 by omega), if_pos t2] at ht' ⊢
        simp [t0] at ht'
      · simp only [Pa.stepP, if_neg (show ¬ k'.nx = 5 by omega), if_neg (show ¬ k'.nx = 6 by omega)] at ht' ⊢
        split
        · simp only; omega
        · simp only; omega
  cases fr with
  | false => simp only [Pa.work, Bool.false_eq_true, if_false] at ht ⊢; exact key k hT ht
  | true =>
    simp only [Pa.work, if_true] at ht ⊢
    cases hr : (P.ready q.i q.now k .take).2.2 with
    | true =>
      rw [hr] at ht
      simp only [if_true] at ht ⊢
      rcases hI.last hi with ⟨e1, e2⟩ | ⟨l, x, e1, e2, e3, _⟩
      · simp only [Pa.ready, if_pos e2] at hr
        cases hr
      · simp only [Pa.ready, if_neg (show ¬ P.A.last q.i = -1 by omega)]
        omega
    | false =>
      rw [hr] at ht
      simp only [Bool.false_eq_true, if_false] at ht ⊢
      obtain ⟨h1, h2⟩ := ready_no hI hi hT hr
      rw [h1] at ht ⊢
      exact key _ h2 ht
/-- The thread's row behind the step: what its task has told. -/
def told (ths : List Th) (i : Nat) (t : Th) (ended : Bool) (a : Int × Int) : List Th := if ended = true then ths.set i { t with ak := a.1, av := a.2 } else ths
theorem tell_any {P' : Pa} {bc : Nat} {k' : Pk} (r : Bool) (hx : r = true → k'.tk = true → k'.sl ≠ -1) (hb0 : q.T0 bc) (hb1 : bc ≠ q.bt) (hb2 : q.WS.heap[bc]? = some (.cells #[.pointer (some ⟨q.bt, 0, none⟩)] 121 (0, 0))) (h : Rn q sp s P'.A (tkA q k') W) (hs : St P' s) (t : Th) (ht : s.ths[q.i]? = some t) :
    Calls Tryz.prog 168 #[.pointer (some ⟨bc, 0, none⟩), .pointer (some ⟨q.p.bd, 0, none⟩), .bool r] W fun e w' => e = .returned (.bool r) ∧ ∃ s', Rn q sp s' P'.A (tkA q k') w' ∧ St P' s' ∧ s'.ths = told s.ths q.i t r (Pa.answer .take k') := by
  cases r with
  | false =>
    refine (tell_no W _ _).mono ?_
    rintro e w' ⟨rfl, rfl⟩
    exact ⟨rfl, s, h, hs, rfl⟩
  | true =>
    have hc := h.oth hb0 hb1 (by unfold Oth; decide) hb2
    have c0 : W.cell? ⟨bc, 0, none⟩ = some (.pointer (some ⟨q.bt, 0, none⟩)) := by simp [World.cell?, hc]
    have c6 : W.cell? ⟨q.bt, 6, none⟩ = some (.bool k'.tk) := h.at 6 _ rfl
    have c2 : W.cell? ⟨q.bt, 2, none⟩ = some (.int .i64 k'.sl) := h.at 2 _ rfl
    cases htk : k'.tk with
    | false =>
      rw [htk] at c6
      refine (tell_full c0 c6 (h.answer t ht 4 0)).mono ?_
      rintro e w' ⟨rfl, h1⟩
      refine ⟨rfl, _, h1, ⟨hs.n, hs.cls, hs.shs, hs.ws, hs.lg, hs.ah⟩, ?_⟩
      simp [told, Pa.answer, htk]
    | true =>
      rw [htk] at c6
      refine (tell_slot (hx rfl htk) c0 c6 c2 (h.answer t ht 2 k'.sl)).mono ?_
      rintro e w' ⟨rfl, h1⟩
      refine ⟨rfl, _, h1, ⟨hs.n, hs.cls, hs.shs, hs.ws, hs.lg, hs.ah⟩, ?_⟩
      simp [told, Pa.answer, htk]
theorem work_take {bc : Nat} (h : Rn q false s P.A (tkA q k) W) (hq : q.WS = W) (hb0 : q.T0 bc) (hb1 : bc ≠ q.bt) (hb2 : W.heap[bc]? = some (.cells #[.pointer (some ⟨q.bt, 0, none⟩)] 121 (0, 0))) (hs : St P s) (hI : Inv P b) (hc : Cq q P) (hi : q.i < P.pts.length) (hT : Tok P q.i fr .take k) (t : Th) (ht : s.ths[q.i]? = some t) :
    Calls Tryz.prog 86 #[.iface 119 (.pointer (some ⟨bc, 0, none⟩)), .bool fr, .pointer (some ⟨q.p.bd, 0, none⟩)] W fun e w' => e = .returned (.bool (P.work q.i q.now fr .take k).2.2) ∧ ∃ sp' s', Rn q sp' s' (P.work q.i q.now fr .take k).1.A (tkA q (P.work q.i q.now fr .take k).2.1) w' ∧ St (P.work q.i q.now fr .take k).1 s' ∧ s'.ths = told s.ths q.i t (P.work q.i q.now fr .take k).2.2 (Pa.answer .take (P.work q.i q.now fr .take k).2.1) := by
  have hx := took hI hi hT
  have hb2' : q.WS.heap[bc]? = some (.cells #[.pointer (some ⟨q.bt, 0, none⟩)] 121 (0, 0)) := by rw [hq]; exact hb2
  have c0 : ∀ {w : World} {sp : Bool} {s : Ss} {A : Ao} {xs : Array Value}, Rn q sp s A xs w → w.cell? ⟨bc, 0, none⟩ = some (.pointer (some ⟨q.bt, 0, none⟩)) := fun h => by
    have := h.oth hb0 hb1 (by unfold Oth; decide) hb2'
    simp [World.cell?, this]
  have STP : ∀ {w : World} {s1 : Ss} {k1 : Pk}, Rn q false s1 P.A (tkA q k1) w → St P s1 → s1.ths = s.ths → Tok P q.i false .take k1 → ((P.stepP q.i q.now k1 .take).2.2 = true → (P.stepP q.i q.now k1 .take).2.1.tk = true → (P.stepP q.i q.now k1 .take).2.1.sl ≠ -1) → Calls Tryz.prog 167 #[.pointer (some ⟨bc, 0, none⟩), .pointer (some ⟨q.p.bd, 0, none⟩)] w fun e w' => e = .returned (.bool (P.stepP q.i q.now k1 .take).2.2) ∧ ∃ sp' s', Rn q sp' s' (P.stepP q.i q.now k1 .take).1.A (tkA q (P.stepP q.i q.now k1 .take).2.1) w' ∧ St (P.stepP q.i q.now k1 .take).1 s' ∧ s'.ths = told s.ths q.i t (P.stepP q.i q.now k1 .take).2.2 (Pa.answer .take (P.stepP q.i q.now k1 .take).2.1) := fun {w s1 k1} h1 hs1 e1 hT1 hx1 => by
    refine call_step (c0 h1) (taking_step (Q := fun w' => ∃ s', Rn q true s' (P.stepP q.i q.now k1 .take).1.A (tkA q (P.stepP q.i q.now k1 .take).2.1) w' ∧ St (P.stepP q.i q.now k1 .take).1 s' ∧ s'.ths = s1.ths) (fun w' hB => take_run (h1.below hB) hs1 hI hc hT1)) ?_
    rintro w1 ⟨s', r1, r2, r3⟩
    refine (tell_any (P' := (P.stepP q.i q.now k1 .take).1) _ hx1 hb0 hb1 hb2' r1 r2 t (by rw [r3, e1]; exact ht)).mono ?_
    rintro e w' ⟨rfl, s'', g1, g2, g3⟩
    exact ⟨rfl, true, s'', g1, g2, by rw [g3, r3, e1]⟩
  cases fr with
  | false =>
    simp only [Pa.work, Bool.false_eq_true, if_false] at hx ⊢
    exact work_step (mT1 _) (enters_of Tryz.func167 (by kernel_rfl) rfl) (STP h hs rfl hT hx)
  | true =>
    have RD := call_ready (c0 h) (taking_ready (Q := fun w' => ∃ s', Rn q false s' (P.ready q.i q.now k .take).1.A (tkA q (P.ready q.i q.now k .take).2.1) w' ∧ St (P.ready q.i q.now k .take).1 s' ∧ s'.ths = s.ths) (fun w' hB => take_rdy (h.below hB) hs hI hi hT)) (Q := fun w' => ∃ s', Rn q false s' (P.ready q.i q.now k .take).1.A (tkA q (P.ready q.i q.now k .take).2.1) w' ∧ St (P.ready q.i q.now k .take).1 s' ∧ s'.ths = told s.ths q.i t (P.ready q.i q.now k .take).2.2 (Pa.answer .take (P.ready q.i q.now k .take).2.1)) (by
      rintro w1 ⟨s', r1, r2, r3⟩
      refine (tell_any (P' := (P.ready q.i q.now k .take).1) _ (fun e1 e2 => ?_) hb0 hb1 hb2' r1 r2 t (by rw [r3]; exact ht)).mono ?_
      · have := hx (by simp only [Pa.work, if_true, e1])
        simp only [Pa.work, if_true, e1] at this
        exact this e2
      · rintro e w' ⟨rfl, s'', g1, g2, g3⟩
        exact ⟨rfl, s'', g1, g2, by rw [g3, r3]⟩)
    simp only [Pa.work, if_true] at hx ⊢
    cases hr : (P.ready q.i q.now k .take).2.2 with
    | true =>
      simp only [hr, if_true] at RD ⊢
      refine (work_yes (mT0 _) (enters_of Tryz.func166 (by kernel_rfl) rfl) RD).mono ?_
      rintro e w' ⟨rfl, s', g1, g2, g3⟩
      exact ⟨rfl, false, s', g1, g2, g3⟩
    | false =>
      obtain ⟨y1, y2⟩ := ready_no hI hi hT hr
      simp only [hr, Bool.false_eq_true, if_false, y1] at RD hx ⊢
      exact work_no (mT0 _) (enters_of Tryz.func166 (by kernel_rfl) rfl) (mT1 _) (enters_of Tryz.func167 (by kernel_rfl) rfl) RD (fun w1 ⟨s', g1, g2, g3⟩ => STP g1 g2 g3 y2 hx)
theorem work_give (h : Rn q false s P.A (gvA q k 0) W) (hq : q.WS = W) (hs : St P s) (hI : Inv P b) (hc : Cq q P) (hK : P.K ≤ 64) (hi : q.i < P.pts.length) (hT : Tok P q.i fr .give k) :
    Calls Tryz.prog 86 #[.iface 74 (.pointer (some ⟨q.bt, 0, none⟩)), .bool fr, .pointer (some ⟨q.p.bd, 0, none⟩)] W fun e w' => e = .returned (.bool (P.work q.i q.now fr .give k).2.2) ∧ ∃ sp' s', Rn q sp' s' (P.work q.i q.now fr .give k).1.A (gvA q (P.work q.i q.now fr .give k).2.1 0) w' ∧ St (P.work q.i q.now fr .give k).1 s' ∧ s'.ths = s.ths := by
  have STP : ∀ {w : World} {s1 : Ss} {k1 : Pk}, Rn q false s1 P.A (gvA q k1 0) w → St P s1 → s1.ths = s.ths → Tok P q.i false .give k1 → Calls Tryz.prog 34 #[.pointer (some ⟨q.bt, 0, none⟩), .pointer (some ⟨q.p.bd, 0, none⟩)] w fun e w' => e = .returned (.bool (P.stepP q.i q.now k1 .give).2.2) ∧ ∃ sp' s', Rn q sp' s' (P.stepP q.i q.now k1 .give).1.A (gvA q (P.stepP q.i q.now k1 .give).2.1 0) w' ∧ St (P.stepP q.i q.now k1 .give).1 s' ∧ s'.ths = s.ths := fun {w s1 k1} h1 hs1 e1 hT1 => by
    refine giving_step (fun w' hB => (give_run (h1.below hB) hs1 hI hc hT1).mono ?_)
    rintro e w' ⟨rfl, s', g1, g2, g3⟩
    exact ⟨rfl, true, s', g1, g2, g3.trans e1⟩
  cases fr with
  | false =>
    simp only [Pa.work, Bool.false_eq_true, if_false]
    exact work_step (mG1 _) (enters_of Tryz.func34 (by kernel_rfl) rfl) (STP h hs rfl hT)
  | true =>
    have RD := giving_ready (fun w' hB => give_rdy (h.below hB) (by rw [hq]; exact hB.size) hs hI hc hi hK hT)
    simp only [Pa.work, if_true]
    cases hr : (P.ready q.i q.now k .give).2.2 with
    | true =>
      simp only [hr, if_true] at RD ⊢
      refine (work_yes (mG0 _) (enters_of Tryz.func33 (by kernel_rfl) rfl) RD).mono ?_
      rintro e w' ⟨rfl, s', g1, g2, g3⟩
      exact ⟨rfl, false, s', g1, g2, g3⟩
    | false =>
      obtain ⟨y1, y2⟩ := ready_no hI hi hT hr
      simp only [hr, Bool.false_eq_true, if_false, y1] at RD ⊢
      exact work_no (mG0 _) (enters_of Tryz.func33 (by kernel_rfl) rfl) (mG1 _) (enters_of Tryz.func34 (by kernel_rfl) rfl) RD (fun w1 ⟨s', g1, g2, g3⟩ => STP g1 g2 g3 y2)
theorem work_flush (h : Rn q false s P.A (gvA q k 4) W) (hs : St P s) (hI : Inv P b) (hc : Cq q P) (hi : q.i < P.pts.length) (hT : Tok P q.i fr .flush k) :
    Calls Tryz.prog 86 #[.iface 76 (.pointer (some ⟨q.bt, 0, none⟩)), .bool fr, .pointer (some ⟨q.p.bd, 0, none⟩)] W fun e w' => e = .returned (.bool (P.work q.i q.now fr .flush k).2.2) ∧ ∃ sp' s', Rn q sp' s' (P.work q.i q.now fr .flush k).1.A (gvA q (P.work q.i q.now fr .flush k).2.1 4) w' ∧ St (P.work q.i q.now fr .flush k).1 s' ∧ s'.ths = s.ths := by
  have STP : ∀ {w : World} {s1 : Ss} {k1 : Pk}, Rn q false s1 P.A (gvA q k1 4) w → St P s1 → s1.ths = s.ths → Tok P q.i false .flush k1 → Calls Tryz.prog 36 #[.pointer (some ⟨q.bt, 0, none⟩), .pointer (some ⟨q.p.bd, 0, none⟩)] w fun e w' => e = .returned (.bool (P.stepP q.i q.now k1 .flush).2.2) ∧ ∃ sp' s', Rn q sp' s' (P.stepP q.i q.now k1 .flush).1.A (gvA q (P.stepP q.i q.now k1 .flush).2.1 4) w' ∧ St (P.stepP q.i q.now k1 .flush).1 s' ∧ s'.ths = s.ths := fun {w s1 k1} h1 hs1 e1 hT1 => by
    refine flushing_step (fun w' hB => (flush_run (h1.below hB) hs1 hI hc hi hT1).mono ?_)
    rintro e w' ⟨rfl, s', g1, g2, g3⟩
    exact ⟨rfl, true, s', g1, g2, g3.trans e1⟩
  cases fr with
  | false =>
    simp only [Pa.work, Bool.false_eq_true, if_false]
    exact work_step (mF1 _) (enters_of Tryz.func36 (by kernel_rfl) rfl) (STP h hs rfl hT)
  | true =>
    have RD := flushing_ready (fun w' hB => flush_rdy (h.below hB) hs hI hi hT)
    simp only [Pa.work, if_true]
    cases hr : (P.ready q.i q.now k .flush).2.2 with
    | true =>
      simp only [hr, if_true] at RD ⊢
      refine (work_yes (mF0 _) (enters_of Tryz.func35 (by kernel_rfl) rfl) RD).mono ?_
      rintro e w' ⟨rfl, s', g1, g2, g3⟩
      exact ⟨rfl, false, s', g1, g2, g3⟩
    | false =>
      obtain ⟨y1, y2⟩ := ready_no hI hi hT hr
      simp only [hr, Bool.false_eq_true, if_false, y1] at RD ⊢
      exact work_no (mF0 _) (enters_of Tryz.func35 (by kernel_rfl) rfl) (mF1 _) (enters_of Tryz.func36 (by kernel_rfl) rfl) RD (fun w1 ⟨s', g1, g2, g3⟩ => STP g1 g2 g3 y2)
end
end Go.Proofs.YtkimmfdicohoiaaGreat.Ar
