/-
  The iterator of along, by its contract.
-/
import Derived.Test.YtdggempcfmihpaaPlEnt
import Derived.Test.YtdggempcfmihpaaPlRange
import Derived.Sort.LoopGhostIn
import Derived.Deep.RegionWith
namespace Go.Proofs.Ytdggempcfmihpaa.Pl
open Go.RowKit Mr Me Wp Wc Wm
attribute [local go_sem] Oper.semAt_some
set_option linter.unusedVariables false
set_option linter.unusedSimpArgs false
/-- The boxes that the iterator holds: its slot, the view, the region, whether marks may be. -/
structure It (W : World) (bs bp br bm bv : Nat) (s r : Int) (m : Bool) : Prop where
  hs : W.heap[bs]? = some (.cells #[.int .i64 s] 3 (0, 0))
  hp : W.heap[bp]? = some (.cells #[.pointer (some ⟨bv, 0, none⟩)] 44 (0, 0))
  hr : W.heap[br]? = some (.cells #[.int .i64 r] 74 (0, 0))
  hm : W.heap[bm]? = some (.cells #[.bool m] 4 (0, 0))
  d1 : bs ≠ bp
  d2 : bs ≠ br
  d3 : bs ≠ bm
section
variable {W W' : World} {bs bp br bm bv g : Nat} {s r : Int} {m : Bool} {c : C7} {aw : Addr} {cap : Nat} {ws : List Int} {v : Vs}
theorem It.fr {S : Nat → Prop} (h : It W bs bp br bm bv s r m) (hf : Fr W W' S) (h1 : ¬ S bs) (h2 : ¬ S bp) (h3 : ¬ S br) (h4 : ¬ S bm) : It W' bs bp br bm bv s r m :=
  ⟨(hf.block _ (Array.getElem?_eq_some_iff.1 h.hs).1 h1).trans h.hs, (hf.block _ (Array.getElem?_eq_some_iff.1 h.hp).1 h2).trans h.hp, (hf.block _ (Array.getElem?_eq_some_iff.1 h.hr).1 h3).trans h.hr, (hf.block _ (Array.getElem?_eq_some_iff.1 h.hm).1 h4).trans h.hm, h.d1, h.d2, h.d3⟩
theorem It.cells (h : It W bs bp br bm bv s r m) : W.cell? ⟨bs, 0, none⟩ = some (.int .i64 s) ∧ W.cell? ⟨bp, 0, none⟩ = some (.pointer (some ⟨bv, 0, none⟩)) ∧ W.cell? ⟨br, 0, none⟩ = some (.int .i64 r) ∧ W.cell? ⟨bm, 0, none⟩ = some (.bool m) ∧ W.frozen? ⟨bs, 0, none⟩ = false := by
  refine ⟨?_, ?_, ?_, ?_, ?_⟩
  · simp [World.cell?, h.hs]
  · simp [World.cell?, h.hp]
  · simp [World.cell?, h.hr]
  · simp [World.cell?, h.hm]
  · simp [World.frozen?, h.hs]
theorem It.set (h : It W bs bp br bm bv s r m) (t : Int) : It (W.setCell ⟨bs, 0, none⟩ (.int .i64 t)) bs bp br bm bv t r m := by
  have hf : Fr W (W.setCell ⟨bs, 0, none⟩ (.int .i64 t)) (fun k => k = bs) := (Fr.refl _ _).setCell _ _ (.inl rfl)
  exact ⟨setBlk h.hs 0 _, (hf.block _ (Array.getElem?_eq_some_iff.1 h.hp).1 h.d1.symm).trans h.hp, (hf.block _ (Array.getElem?_eq_some_iff.1 h.hr).1 h.d2.symm).trans h.hr, (hf.block _ (Array.getElem?_eq_some_iff.1 h.hm).1 h.d3.symm).trans h.hm, h.d1, h.d2, h.d3⟩
/-- The boxes lie apart from the view and from the words. -/
structure Apart (bs bp br bm bv g : Nat) (aw : Addr) : Prop where
  s1 : bs ≠ bv
  s2 : bs ≠ g
  s3 : bs ≠ aw.block
  p1 : bp ≠ bv
  p2 : bp ≠ g
  r1 : br ≠ bv
  r2 : br ≠ g
  m1 : bm ≠ bv
  m2 : bm ≠ g
def wdr (c : C7) (ws : List Int) (r : Int) (j : Nat) : Int := wat ws (c.at r.toNat + (j : Int)).toNat
theorem fuel_step (wd : Nat → Int) (m : Bool) (k : Nat) (v : Vs) (s : Int) (hw : ∀ j, 0 ≤ wd j) (h : v.cm.count false < k + 1) : (v.fol m (wd s.toNat)).1 = -1 ∨ ((v.fol m (wd s.toNat)).2.2.cm.count false < k ∧ 0 ≤ (v.fol m (wd s.toNat)).1 ∧ (v.fol m (wd s.toNat)).1 < v.cm.length) := by
  unfold Vs.fol
  by_cases ho : okl m (wd s.toNat) = true
  · simp only [ho, if_true]
    rcases ent_step v (nxt (wd s.toNat)) (nxt_ge _ (hw _)) with ⟨h1, h2⟩ | ⟨h0, h1, h2, h3⟩
    · exact .inl h1
    · rw [h1, h3]
      have := count_put _ _ h2
      have hl := (List.getElem?_eq_some_iff.1 h2).1
      refine .inr ⟨?_, h0, by omega⟩
      show (v.cm.set _ true).count false < k
      omega
  · simp only [ho]; exact .inl rfl
set_option maxRecDepth 100000 in
set_option maxHeartbeats 4000000 in
theorem along_hands (n : Nat) (hn : 1 ≤ n) (Sc : Nat → Prop) (hA : Apart bs bp br bm bv g aw) (hr : r = 10 ∨ r = 13) (h1 : ¬ Sc bs) (h2 : ¬ Sc bp) (h3 : ¬ Sc br) (h4 : ¬ Sc bm) (h5 : ¬ Sc bv) (h6 : ¬ Sc g) (h7 : ¬ Sc aw.block) (k0 : Nat) (hk0 : v.cm.count false < k0) (hs : s = -1 ∨ (0 ≤ s ∧ s < v.cm.length)) :
    HandsW n Try.prog 62 #[.pointer (some ⟨bs, 0, none⟩), .pointer (some ⟨bp, 0, none⟩), .pointer (some ⟨br, 0, none⟩), .pointer (some ⟨bm, 0, none⟩)] (fun x : Int × Bool => #[Value.int .i64 x.1, .bool x.2]) (alg (wdr c ws r) m k0 v s).1
      (fun k => k = bv ∨ k = g ∨ k = bs) Sc (fun W => It W bs bp br bm bv s r m ∧ Vw W bv g c aw cap ws v) (fun W => ∃ v', Vw W bv g c aw cap ws v') (fun W => Vw W bv g c aw cap ws (alg (wdr c ws r) m k0 v s).2) := by
  rintro l C W hCs ⟨hI, hV⟩ hC0 hY
  have hlen := hV.five
  have hcok := hV.ok
  have hbd := hV.wds
  have hw : ∀ j, 0 ≤ wdr c ws r j := fun j => (hbd.in _).1
  have hw2 : ∀ j, wdr c ws r j ≤ 18446744073709551615 := fun j => (hbd.in _).2
  clear hbd
  have hat : ∀ i : Int, 0 ≤ i → i < v.cm.length → At c r i := fun i q1 q2 => ⟨hcok, by omega, by omega, by omega, q1, by
    unfold items
    rcases hr with rfl | rfl <;> simp <;> omega⟩
  obtain ⟨y1, y2, y3, y4, y5⟩ := hI.cells
  generalize hys : (alg (wdr c ws r) m k0 v s).1 = ys at *
  generalize hvf : (alg (wdr c ws r) m k0 v s).2 = vf at *
  obtain ⟨nl, hnl⟩ : ∃ nl, nl = v.cm.length := ⟨_, rfl⟩
  rw [← hnl] at hat hs hlen
  refine callsIn_of_wp Try.func62 rfl trivial ?_ rfl
  simp only [Try.ntmps62, List.size_toArray, List.length_cons, List.length_nil, Nat.reduceAdd, Nat.reduceSub, Array.replicate_succ, Array.replicate_zero, List.push_toArray, List.append_toArray, List.nil_append, List.cons_append]
  gi_wp2
  gi_loopg [] k0 (fun kk wr => ∃ (k : Nat) (v' : Vs) (s' : Int), It wr bs bp br bm bv s' r m ∧ Vw wr bv g c aw cap ws v' ∧ C k wr ∧ v'.cm.length = nl ∧ (s' = -1 ∨ (0 ≤ s' ∧ s' < nl ∧ v'.cm.count false < kk)) ∧ (alg (wdr c ws r) m kk v' s').1 = ys.drop k ∧ (alg (wdr c ws r) m kk v' s').2 = vf ∧ k ≤ ys.length)
  case atStart => exact ⟨0, v, s, hI, hV, hC0, hnl.symm, hs.imp id (fun h => ⟨h.1, h.2, hk0⟩), by rw [hys]; rfl, hvf, Nat.zero_le _⟩
  case round =>
    obtain ⟨k, v', s', hI', hV', hC', hcl, hs', ha1, ha2, hky⟩ := hrel
    clear y1 y2 y3 y4 y5
    obtain ⟨y1, y2, y3, y4, y5⟩ := hI'.cells
    by_cases hend : s' = -1
    · subst hend
      rw [alg_end] at ha1 ha2
      have hk' : k = ys.length := by
        have := congrArg List.length ha1
        simp at this
        omega
      subst hk'
      simp only at ha2
      subst ha2
      replace hI' := Mr.hid hI'
      replace hV' := Mr.hid hV'
      replace hC' := Mr.hid hC'
      clear hCs hY hat hw hw2
      gi_wp2
      go_end0
      exact ⟨⟨_, rfl⟩, hC'.out, hV'.out⟩
    · obtain ⟨sn, rfl⟩ := Int.eq_ofNat_of_zero_le (show 0 ≤ s' by omega)
      have hsn : sn < nl := by omega
      have hct : v'.cm.count false < gk := by omega
      obtain ⟨q, hq⟩ : ∃ q, gk = q + 1 := ⟨gk - 1, by omega⟩
      subst hq
      have hstep := fuel_step (wdr c ws r) m q v' (sn : Int) hw hct
      have hx1 := hw sn
      have hx2 := hw2 sn
      have hsnn : ((sn : Int)).toNat = sn := by omega
      have ealg : alg (wdr c ws r) m (q + 1) v' (sn : Int) = (((sn : Int), (v'.fol m (wdr c ws r sn)).2.1) :: (alg (wdr c ws r) m q (v'.fol m (wdr c ws r sn)).2.2 (v'.fol m (wdr c ws r sn)).1).1, (alg (wdr c ws r) m q (v'.fol m (wdr c ws r sn)).2.2 (v'.fol m (wdr c ws r sn)).1).2) := by
        rw [alg, if_neg hend, hsnn]
      rw [ealg] at ha1 ha2
      rw [hsnn] at hstep
      clear ealg
      have hfl := cm_len_fol v' m (wdr c ws r sn)
      have hyk : ys[k]? = some ((sn : Int), (v'.fol m (wdr c ws r sn)).2.1) := by
        have := congrArg (fun l => l[0]?) ha1
        simpa using this.symm
      have hyd : ys.drop (k + 1) = (alg (wdr c ws r) m q (v'.fol m (wdr c ws r sn)).2.2 (v'.fol m (wdr c ws r sn)).1).1 := by
        have := congrArg (List.drop 1) ha1
        simpa [List.drop_drop] using this.symm
      have hkl : k < ys.length := (List.getElem?_eq_some_iff.1 hyk).1
      have WA := word_any (hV'.below ((Below.refl wr.heap.size wr).drew)) r (sn : Int) (hat sn (by omega) (by omega))
      have ewd : wat ws (c.at r.toNat + (sn : Int)).toNat = wdr c ws r sn := rfl
      rw [ewd] at WA
      have FW := fun w3 (hb : Below wr.heap.size wr w3) => follow_any (hV'.below hb) m (wdr c ws r sn) hx1 hx2
      have KI := fun w3 w4 (hb : Below wr.heap.size wr w3) (hf : Fr w3 w4 (fun k => k = bv ∨ k = g)) => (It.fr (hI'.fr (S := fun _ => False) (Fr.of_below hb) (fun e => e) (fun e => e) (fun e => e) (fun e => e)) hf (fun e => e.elim hA.s1 hA.s2) (fun e => e.elim hA.p1 hA.p2) (fun e => e.elim hA.r1 hA.r2) (fun e => e.elim hA.m1 hA.m2))
      have KC := fun w3 w4 (hb : Below wr.heap.size wr w3) (hf : Fr w3 w4 (fun k => k = bv ∨ k = g)) => hCs k _ _ (hCs k _ _ hC' (Fr.of_below hb)) (hf.mono (fun k e => e.elim .inl (fun e => .inr (.inl e))))
      generalize hfo : v'.fol m (wdr c ws r sn) = fo at *
      obtain ⟨nx, mk, v2⟩ := fo
      simp only at *
      try clear hfo
      try clear ewd
      try clear hx1 hx2
      try clear hsnn
      try clear ha1
      try clear hs'
      try clear hct
      try clear hend
      have dn : ((sn : Int) != -1) = true := by simp
      generalize wdr c ws r sn = x at *
      have hI2 := Mr.hid hI'
      clear hI' hV' hC'
      replace WA := Mr.hid WA
      replace FW := Mr.hid FW
      replace KI := Mr.hid KI
      replace KC := Mr.hid KC
      replace hstep := Mr.hid hstep
      replace ha2 := Mr.hid ha2
      replace hyd := Mr.hid hyd
      replace hyk := Mr.hid hyk
      replace hY := Mr.hid hY
      replace hCs := Mr.hid hCs
      replace hat := Mr.hid hat
      replace hw := Mr.hid hw
      replace hw2 := Mr.hid hw2
      gi_wp2
      refine wpIn_wide.2 ?_
      go_region_held3 (fun w' => w'.cell? ⟨bs, 0, none⟩ = some (.int .i64 (sn : Int)) ∧ w'.cell? ⟨bp, 0, none⟩ = some (.pointer (some ⟨bv, 0, none⟩)) ∧ w'.cell? ⟨br, 0, none⟩ = some (.int .i64 r) ∧ w'.cell? ⟨bm, 0, none⟩ = some (.bool m)) (simp [*])
        (first | (go_at_call 35; refine WA.out.mono ?_; clear WA; rintro e w3 ⟨rfl, hb⟩; replace hb := ((Below.refl wr.heap.size wr).drew).trans hb; obtain ⟨x1, x2, x3, x4, -⟩ := (KI.out w3 w3 hb (Fr.refl _ _)).cells; replace hb := Mr.hid hb) | (go_at_call 42; refine (FW.out w3 hb.out).mono ?_; clear FW; rintro e w4 ⟨rfl, hV4, hF4⟩; have hI4 := KI.out w3 w4 hb.out hF4; have hC4 := KC.out w3 w4 hb.out hF4; clear x1 x2 x3 x4; obtain ⟨x1, x2, x3, x4, x5⟩ := hI4.cells; replace hI4 := Mr.hid hI4; replace hC4 := Mr.hid hC4; replace hV4 := Mr.hid hV4; clear hF4 KI KC))
      obtain ⟨fn, tmps, assign, body, hy, hR⟩ := hY.out k _ w4 hyk.out ⟨v2, hV4.out⟩ hC4.out
      simp only at hy
      gi_wp2
      refine hR.mono ?_
      rintro e w5 ⟨rfl, hC5, hF5⟩
      have hI5 := hI4.out.fr hF5 h1 h2 h3 h4
      have hV5 := hV4.out.fr hF5 h5 h6 h7
      have f0 := hI5.cells.2.2.2.2
      have z0 := hI5.cells.1
      have hI6 := hI5.set nx
      have fs : Fr w5 (w5.setCell ⟨bs, 0, none⟩ (.int .i64 nx)) (fun k => k = bs) := (Fr.refl _ _).setCell _ _ (.inl rfl)
      have hV6 := hV5.fr fs (fun e => hA.s1 e.symm) (fun e => hA.s2 e.symm) (fun e => hA.s3 e.symm)
      have hC6 := hCs.out _ _ _ hC5 (fs.mono (fun k e => .inr (.inr e)))
      clear hI5 hV5 hC5 hF5 fs hy x1 x2 x3 x4 x5
      replace hI6 := Mr.hid hI6
      replace hV6 := Mr.hid hV6
      replace hC6 := Mr.hid hC6
      gi_wp2
      go_roundg q
      case measure => omega
      case rel =>
        refine ⟨k + 1, v2, nx, hI6.out, hV6.out, hC6.out, by omega, ?_, hyd.out.symm, ha2.out, by omega⟩
        rcases hstep.out with h | ⟨h0, h1, h2⟩
        · exact .inl h
        · exact .inr ⟨h1, by omega, h0⟩
end
end Go.Proofs.Ytdggempcfmihpaa.Pl
