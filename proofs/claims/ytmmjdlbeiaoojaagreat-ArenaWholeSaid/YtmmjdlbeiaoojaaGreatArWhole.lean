import Derived.Test.YtmmjdlbeiaoojaaGreatArSpares
import Derived.Deep.Cut
/-
  whole of reclaimlaw04, by its contract.
-/
namespace Go.Proofs.YtmmjdlbeiaoojaaGreat.Ar
open Go.RowKit Go.Shelf Mr Me Ma Wc Wm Wr
theorem Tb.cfg {w W : World} {c : Cf} {tb : Nat} {U K : Nat → Prop} {f : Fx} {h : Wh} {P : Pa} (t : Tb w W c tb U K f h P) : W.cell? ⟨tb, 0, none⟩ = some (.int .i64 c.a0) ∧ W.cell? ⟨tb, 1, none⟩ = some (.int .i64 c.a1) ∧ W.cell? ⟨tb, 2, none⟩ = some (.int .i64 c.a2) ∧ W.cell? ⟨tb, 3, none⟩ = some (.int .i64 c.a3) ∧ W.cell? ⟨tb, 4, none⟩ = some (.int .i64 c.a4) ∧ W.cell? ⟨tb, 5, none⟩ = some (.int .i64 c.a5) ∧ W.cell? ⟨tb, 6, none⟩ = some (.int .i64 c.a6) ∧ W.cell? ⟨tb, 7, none⟩ = some (.pointer (some ⟨f.ba, 0, none⟩)) ∧ W.cell? ⟨tb, 8, none⟩ = some (.pointer (some ⟨f.q.b, 0, none⟩)) := by
  have hr := t.bt
  simp [tbO] at hr
  simp [World.cell?, hr]
theorem ints_its (l : List Int) : ints l = its l := rfl
/-- A row of counts. -/
def Cr (W : World) (g n : Nat) (l : List Int) : Prop := Has W (fun k => k = g) 3 1 (.slice (some ⟨g, 0, none⟩) n n) n (its (cts n l))
theorem Cr.below {W W' : World} {g n : Nat} {l : List Int} (h : Cr W g n l) (hB : Below W.heap.size W W') : Cr W' g n l := Has.below h hB
theorem Cr.cell {W : World} {g n : Nat} {l : List Int} (h : Cr W g n l) (s : Nat) (hs : s < n) : W.cell? ⟨g, s, none⟩ = some (.int .i64 ((l.count (s : Int) : Nat) : Int)) := Has.cells h (g := g) rfl s _ (its_get _ _ _ (cts_get n l s hs))
theorem Cr.lt {W : World} {g n : Nat} {l : List Int} (h : Cr W g n l) : g < W.heap.size := (Has.lt h g rfl).2
theorem Cr.up {W : World} {g n : Nat} {l : List Int} (h : Cr W g n l) (s : Nat) (hs : s < n) : Cr (W.setCell ⟨g, s, none⟩ (.int .i64 (((l.count (s : Int) : Nat) : Int) + 1))) g n (l ++ [(s : Int)]) := by
  have t2 := has_put h s (.int .i64 (((l.count (s : Int) : Nat) : Int) + 1))
  rw [its_set, cts_snoc n l s hs] at t2
  exact t2
theorem Cr.far {W : World} {g n : Nat} {l : List Int} (h : Cr W g n l) (p : Addr) (u : Value) (hp : p.block ≠ g) : Cr (W.setCell p u) g n l := Has.setCell h p u (fun e => by simp [Value.ownBlock] at e; exact hp e.symm)
theorem Cr.new (W : World) (n : Nat) (hn : n ≤ 100000) : Cr (W.alloc (.cells (madeCells #[.int .i64 0] n) 3)) W.heap.size n [] := by
  have := made_its W (fun k => k = W.heap.size) n hn rfl
  rw [← cts_nil] at this
  exact this
set_option maxRecDepth 100000 in
set_option maxHeartbeats 4000000 in
theorem whole_any {w W : World} {c : Cf} {tb : Nat} {U K : Nat → Prop} {f : Fx} {h : Wh} {P : Pa} (T : Tb w W c tb U K f h P) (hc : c.ok = true) (n nt N m Kc : Nat) (h5 : c.a5 = n) (h0 : c.a0 = nt) (h4 : c.a4 = Kc) (hN : base c.a1 c.a2 c.a5 c.a6 14 = (N : Int)) (hm10 : base c.a1 c.a2 c.a5 c.a6 10 = (m : Int)) (hmn : m + n ≤ N) (hN1 : N ≤ 65536) (hn2 : n ≤ 1024) (hn0 : 0 < n) (hnt : nt ≤ 16) (hpt : P.pts.length = nt) (hsl : P.A.sl.length = n) (hws : P.ws.length = N) :
    Calls Tryz.prog 14 #[.pointer (some ⟨tb, 0, none⟩)] W fun e w' => e = .returned (.bool true) ∧ Below W.heap.size W w' := by
  have hI := T.ra.inv
  have hPm : P.m = m := by
    have h1 := T.ra.m
    rw [T.fc] at h1
    unfold Cf.m at h1
    omega
  have hPK : P.K = Kc := by
    have h1 := T.ra.ck
    rw [T.fc] at h1
    omega
  have hca : P.A.ca.length = nt := by rw [hI.kc]; exact hpt
  obtain ⟨l, hl1, hl2, hl3, hl4⟩ := free_list hI
  rw [hsl] at hl2 hl3 hl4
  have hcup := cup_all hI
  rw [hca] at hcup
  have hcs : ∀ k : Nat, k < nt → ∃ lk, P.A.ca[k]? = some lk ∧ P.A.cache k = lk ∧ lk.length ≤ Kc ∧ cup P (k + 1) = cup P k ++ lk ∧ (cup P k).length ≤ k * Kc ∧ ∀ s ∈ lk, (0 ≤ s ∧ s < n) ∧ P.A.st s = (1, (k : Int)) := fun k hk => by
    obtain ⟨lk, hlk⟩ : ∃ lk, P.A.ca[k]? = some lk := ⟨_, List.getElem?_eq_getElem (by omega)⟩
    obtain ⟨_, c2, c3⟩ := hI.ca k lk hlk
    refine ⟨lk, hlk, by simp [Ao.cache, hlk], by omega, cup_succ P k lk hlk, by rw [← hPK]; exact cup_len hI k (by omega), fun s hs => ⟨?_, (c3 s hs).2⟩⟩
    have := (c3 s hs).1
    unfold Ao.has at this
    omega
  have hKc : Kc ≤ 64 := by rw [← hPK]; exact T.ra.K
  have RN := runM_any T.ra.mch (by have h1 := hI.cls; have h2 := hI.bd; show P.cls.length ≤ 100000; omega) (by have h1 := hI.lg; have h2 := hI.bd; show P.lg.length ≤ 100000; omega) (by have h1 := hI.shs; have h2 := hI.bd; show P.shs.length ≤ 100000; omega)
  have k4 : (h.ss P).ws = P.ws := rfl
  rw [k4, hws] at RN
  have SP := fun (W' : World) (S' : Nat → Prop) (av : Option Addr) (cap : Nat) (hv : Has W' S' 44 1 (.slice av N cap) N (wrd P.ws)) => spares_any c hc n m h5 hn2 hN hm10 hPm hws hmn (by omega) hN1 hv hI l hl1 hl2 hl3
  have CH := fun (W' : World) (hB : Below W.heap.size W W') (k : Nat) (hk : k < nt) => cached_in (T.ra.below hB).ar k (by omega) (by obtain ⟨lk, _, e, hle, _⟩ := hcs k hk; rw [e]; omega)
  have ST := fun (W' : World) (hB : Below W.heap.size W W') (x : Int) (hx : P.A.has x) => state_yes (T.ra.below hB).ar x hx
  have TC := fun (W' : World) (hB : Below W.heap.size W W') => (T.below hB).cfg
  rw [h5, h0, h4] at TC
  have hhas : ∀ s : Nat, s < n → P.A.has (s : Int) := fun s hs => ⟨by omega, by rw [hsl]; omega⟩
  have hmk := fun u => make_its u n (by omega)
  have hcv : c.val = .agg #[.int .i64 (nt : Int), .int .i64 c.a1, .int .i64 c.a2, .int .i64 c.a3, .int .i64 (Kc : Int), .int .i64 (n : Int), .int .i64 c.a6] := by unfold Cf.val; rw [h0, h4, h5]
  rw [hcv] at SP
  have ltb := T.size
  obtain ⟨y0, y1, y2, y3, y4, y5, y6, y7, y8⟩ := TC W (Below.refl _ _)
  clear hI hl1 hN hm10 hPm hPK hc k4 hcv h5 h0 h4 T
  replace RN := Mr.hid RN
  replace SP := Mr.hid SP
  replace CH := Mr.hid CH
  replace ST := Mr.hid ST
  replace TC := Mr.hid TC
  replace hcs := Mr.hid hcs
  replace hcup := Mr.hid hcup
  replace hhas := Mr.hid hhas
  replace hl3 := Mr.hid hl3
  replace hl4 := Mr.hid hl4
  replace hsl := Mr.hid hsl
  replace hws := Mr.hid hws
  replace hpt := Mr.hid hpt
  replace hca := Mr.hid hca
  go_enter Tryz.func14, Tryz.ntmps14
  go_upto_region 2 with (go_at_call 22; refine RN.out.mono ?_; clear RN; rintro e w1 ⟨v1, v2, v3, v4, rfl, hv1, hv2, hv3, hv4, hB1⟩; obtain ⟨p1, q1, rfl, _⟩ := hv1.form; obtain ⟨p2, q2, rfl, _⟩ := hv2.form; obtain ⟨p3, q3, rfl, _⟩ := hv3.form; obtain ⟨p4, q4, rfl, _⟩ := hv4.form; clear hv1 hv2 hv3; replace hB1 := Mr.hid hB1; replace hv4 := Mr.hid hv4; unfold runV)
  have hB2 : Below W.heap.size W (w1.alloc (.cells #[.slice p1 (h.ss P).cls.length q1, .slice p2 (h.ss P).lg.length q2, .slice p3 (h.ss P).shs.length q3, .slice p4 N q4] 32)) := hB1.out.alloc hB1.out.size _
  have hv2 := hv4.out.alloc (.cells #[.slice p1 (h.ss P).cls.length q1, .slice p2 (h.ss P).lg.length q2, .slice p3 (h.ss P).shs.length q3, .slice p4 N q4] 32)
  have bB := heap_alloc_new w1 (.cells #[.slice p1 (h.ss P).cls.length q1, .slice p2 (h.ss P).lg.length q2, .slice p3 (h.ss P).shs.length q3, .slice p4 N q4] 32)
  have hgB : W.heap.size ≤ w1.heap.size := hB1.out.size
  generalize (h.ss P).cls.length = z1 at *
  generalize (h.ss P).lg.length = z2 at *
  generalize (h.ss P).shs.length = z3 at *
  generalize w1.alloc (.cells #[.slice p1 z1 q1, .slice p2 z2 q2, .slice p3 z3 q3, .slice p4 N q4] 32 (0, 0)) = W2 at *
  generalize w1.heap.size = B at *
  have KB := fun (W' : World) (hB : Below W2.heap.size W2 W') => (show W'.cell? ⟨B, 3, none⟩ = some (.slice p4 N q4) from by
    have hb : W'.heap[B]? = some (.cells #[.slice p1 z1 q1, .slice p2 z2 q2, .slice p3 z3 q3, .slice p4 N q4] 32 (0, 0)) := (hB.block B (Array.getElem?_eq_some_iff.1 bB).1).trans bB
    simp [World.cell?, hb])
  have b3 := KB W2 (Below.refl _ _)
  have SP2 := SP.out W2.drew _ p4 q4 (hv2.below (Below.refl _ _).drew)
  have lB : B < W2.heap.size := (Array.getElem?_eq_some_iff.1 bB).1
  clear y0 y1 y2 y3 y4 y5 y6 y7 y8 SP hv4 hB1 bB hv2
  obtain ⟨y0, y1, y2, y3, y4, y5, y6, y7, y8⟩ := TC.out W2 hB2
  replace hB2 := Mr.hid hB2
  replace SP2 := Mr.hid SP2
  replace KB := Mr.hid KB
  go_region_held3 (fun w' => w'.cell? ⟨tb, 0, none⟩ = some (.int .i64 (nt : Int)) ∧ w'.cell? ⟨tb, 1, none⟩ = some (.int .i64 c.a1) ∧ w'.cell? ⟨tb, 2, none⟩ = some (.int .i64 c.a2) ∧ w'.cell? ⟨tb, 3, none⟩ = some (.int .i64 c.a3) ∧ w'.cell? ⟨tb, 4, none⟩ = some (.int .i64 (Kc : Int)) ∧ w'.cell? ⟨tb, 5, none⟩ = some (.int .i64 (n : Int)) ∧ w'.cell? ⟨tb, 6, none⟩ = some (.int .i64 c.a6) ∧ w'.cell? ⟨B, 3, none⟩ = some (.slice p4 N q4)) (simp [*])
    (first | (go_at_call 28; refine SP2.out.mono ?_; clear SP2; rintro e w3 ⟨v', rfl, hf, hB3⟩; obtain ⟨pf, qf, rfl, _⟩ := hf.form; replace hB3 := ((Below.refl W2.heap.size W2).drew).trans hB3; have g3 := KB.out w3 hB3; have hB3' := hB2.out.trans (hB3.mono hB2.out.size); obtain ⟨x0, x1, x2, x3, x4, x5, x6, x7, x8⟩ := TC.out w3 hB3'; replace hf := hf.mono (T := fun k => W.heap.size ≤ k) (fun k hk => Nat.le_trans hB2.out.size hk); replace hf := Mr.hid hf; replace hB3' := Mr.hid hB3'; clear hB3))
  clear y0 y1 y2 y3 y4 y5 y6 y7 y8 b3 g3
  have ltw : tb < w3.heap.size := Nat.lt_of_lt_of_le ltb hB3'.out.size
  go_upto_region 6 with fail
  have hBm : Below W.heap.size W (w3.alloc (.cells (madeCells #[.int .i64 0] n) 3)) := hB3'.out.alloc hB3'.out.size _
  have hcm := Cr.new w3 n (by omega)
  have hfm : Has (w3.alloc (.cells (madeCells #[.int .i64 0] n) 3)) (fun k => k < w3.heap.size) 3 1 (.slice pf l.length qf) l.length (ints l) := (hf.out.alloc _).kept (fun _ _ => rfl) (fun k hk => (hf.out.lt k hk).2)
  have hgm : W.heap.size ≤ w3.heap.size := hB3'.out.size
  clear x0 x1 x2 x3 x4 x5 x6 x7 x8 ltw hf hB3'
  generalize w3.alloc (.cells (madeCells #[.int .i64 0] n) 3) = W4 at *
  generalize w3.heap.size = gm at *
  replace hBm := Mr.hid hBm
  replace hcm := Mr.hid hcm
  replace hfm := Mr.hid hfm
  go_wp2
  go_loopg [7] l.length (fun k s wr => ∃ i : Nat, s = .int .i64 (i : Int) ∧ i + k = l.length ∧ Below W.heap.size W wr ∧ Cr wr gm n (l.take i) ∧ Has wr (fun k => k < gm) 3 1 (.slice pf l.length qf) l.length (ints l))
  case atStart => exact ⟨0, rfl, by omega, hBm.out, hcm.out, hfm.out⟩
  case round =>
    obtain ⟨i, rfl, hi, hB, hC, hF⟩ := hrel
    clear hBm hcm hfm
    by_cases hil : i < l.length
    · obtain ⟨s, hs⟩ : ∃ s, l[i]? = some s := ⟨_, List.getElem?_eq_getElem hil⟩
      have hsb := hl3.out s (List.mem_of_getElem? hs)
      obtain ⟨sn, rfl⟩ : ∃ sn : Nat, s = sn := ⟨s.toNat, by omega⟩
      have hsn : sn < n := by omega
      obtain ⟨gf, qq, hgf, hgl, hgw, hgn, hgx⟩ := hF.there (by omega)
      cases hgf
      unfold maxLen at hgx
      have f0 : wr.cell? ⟨gf, i, none⟩ = some (.int .i64 (sn : Int)) := hF.cells (g := gf) rfl i _ (by simp [ints, hs])
      have m0 := hC.cell sn hsn
      have mz := Has.frozen hC (g := gm) rfl
      have mu' := hC.up sn hsn
      have e0 : l.take (i + 1) = l.take i ++ [(sn : Int)] := by rw [List.take_add_one, hs]; rfl
      have hct := cts_le (l.take i) sn
      have hlt : (l.take i).length ≤ 1024 := by rw [List.length_take]; omega
      have mB := hB.setCell (p := ⟨gm, sn, none⟩) hgm (.int .i64 ((((l.take i).count (sn : Int) : Nat) : Int) + 1))
      have mF := hF.setCell ⟨gm, sn, none⟩ (.int .i64 ((((l.take i).count (sn : Int) : Nat) : Int) + 1)) (fun e => by simp [Value.ownBlock] at e; omega)
      have hli : (i : Int) < (l.length : Int) := by omega
      have hlsn : (sn : Int) < (n : Int) := by omega
      have hgmw := hC.lt
      generalize (l.take i).count (sn : Int) = cq at *
      replace mu' := Mr.hid mu'
      replace mB := Mr.hid mB
      replace mF := Mr.hid mF
      replace e0 := Mr.hid e0
      replace hC := Mr.hid hC
      replace hF := Mr.hid hF
      replace hB := Mr.hid hB
      replace hs := Mr.hid hs
      go_wp2
      go_roundg (gk - 1)
      case measure => omega
      case rel => exact ⟨i + 1, by simp, by omega, mB.out, by rw [e0.out]; exact mu'.out, mF.out⟩
    · have hie : i = l.length := by omega
      subst hie
      rw [List.take_length] at hC
      obtain ⟨y0, y1, y2, y3, y4, y5, y6, y7, y8⟩ := TC.out wr hB
      have ltw : tb < wr.heap.size := Nat.lt_of_lt_of_le ltb hB.size
      have hBm : Below W.heap.size W (wr.alloc (.cells (madeCells #[.int .i64 0] n) 3)) := hB.alloc hB.size _
      have hcc := Cr.new wr n (by omega)
      have hcm : Cr (wr.alloc (.cells (madeCells #[.int .i64 0] n) 3)) gm n l := hC.below ((Below.refl _ _).alloc (Nat.le_refl _) _)
      have hgc : W.heap.size ≤ wr.heap.size := hB.size
      have hgmc : gm < wr.heap.size := hC.lt
      clear hF hB hC
      replace hBm := Mr.hid hBm
      replace hcm := Mr.hid hcm
      replace hcc := Mr.hid hcc
      go_upto_region 11 with fail
      clear y0 y1 y2 y3 y4 y5 y6 y7 y8 ltw
      generalize wr.alloc (.cells (madeCells #[.int .i64 0] n) 3) = W5 at *
      generalize wr.heap.size = gc at *
      go_wp2
      go_loopg [9] nt (fun k s wy => ∃ kk : Nat, s = .int .i64 (kk : Int) ∧ kk + k = nt ∧ Below W.heap.size W wy ∧ Cr wy gm n l ∧ Cr wy gc n (cup P kk))
      case atStart => exact ⟨0, rfl, by omega, hBm.out, hcm.out, by simpa [cup] using hcc.out⟩
      case round =>
        obtain ⟨kk, rfl, hkk, hB, hC, hC2⟩ := hrel
        clear hBm hcm hcc
        obtain ⟨y0, y1, y2, y3, y4, y5, y6, y7, y8⟩ := TC.out wr hB
        have ltw : tb < wr.heap.size := Nat.lt_of_lt_of_le ltb hB.size
        by_cases hkn : kk < nt
        · obtain ⟨lk, hlk, hce, hle, hcu, hcl, hlm⟩ := hcs.out kk hkn
          have CK := CH.out wr hB kk hkn
          rw [hce] at CK
          have hkn' : (kk : Int) < (nt : Int) := by omega
          have d1 : decide ((Kc : Int) < (lk.length : Int)) = false := decide_eq_false (by omega)
          have d1' : decide (Kc < lk.length) = false := decide_eq_false (by omega)
          have K0 := fun (W' : World) (hB' : Below wr.heap.size wr W') => (⟨hB.trans (hB'.mono hB.size), hC.below hB', hC2.below hB'⟩ : _ ∧ _ ∧ _)
          have hgcw := hC2.lt
          clear hlk hce
          replace CK := Mr.hid CK
          replace K0 := Mr.hid K0
          replace hcu := Mr.hid hcu
          replace hlm := Mr.hid hlm
          replace hB := Mr.hid hB
          replace hC := Mr.hid hC
          replace hC2 := Mr.hid hC2
          obtain ⟨gko, hgko⟩ : ∃ g, g = gk := ⟨_, rfl⟩
          go_wp2_with (go_at_call 18; refine CK.out.mono ?_; clear CK; rintro e w6 ⟨v', rfl, hv, hB6⟩; obtain ⟨pk, qk, rfl, _⟩ := hv.form; obtain ⟨n1, n2, n3⟩ := K0.out w6 hB6; have hv' := hv.mono (T := fun k => gc < k) (fun k hk => Nat.lt_of_lt_of_le hgcw hk); have l6 := hB6.size; clear y0 y1 y2 y3 y4 y5 y6 y7 y8 hv hB6 K0; obtain ⟨y0, y1, y2, y3, y4, y5, y6, y7, y8⟩ := TC.out w6 n1; replace n1 := Mr.hid n1; replace n2 := Mr.hid n2; replace n3 := Mr.hid n3; replace hv' := Mr.hid hv')
          clear y0 y1 y2 y3 y4 y5 y6 y7 y8 ltw d1 d1' hB hC hC2 hgcw l6
          go_loopg [11] lk.length (fun k s wz => ∃ i : Nat, s = .int .i64 (i : Int) ∧ i + k = lk.length ∧ Below W.heap.size W wz ∧ Cr wz gm n l ∧ Cr wz gc n (cup P kk ++ lk.take i) ∧ Has wz (fun k => gc < k) 3 1 (.slice pk lk.length qk) lk.length (ints lk))
          case atStart => exact ⟨0, rfl, by omega, n1.out, n2.out, by simpa using n3.out, hv'.out⟩
          case round =>
            obtain ⟨i, rfl, hi, hB, hC, hC2, hF⟩ := hrel
            obtain ⟨y0, y1, y2, y3, y4, y5, y6, y7, y8⟩ := TC.out wr hB
            have ltw : tb < wr.heap.size := Nat.lt_of_lt_of_le ltb hB.size
            by_cases hil : i < lk.length
            · obtain ⟨s, hs⟩ : ∃ s, lk[i]? = some s := ⟨_, List.getElem?_eq_getElem hil⟩
              obtain ⟨hsb, hst⟩ := hlm.out s (List.mem_of_getElem? hs)
              obtain ⟨sn, rfl⟩ : ∃ sn : Nat, s = sn := ⟨s.toNat, by omega⟩
              have hsn : sn < n := by omega
              obtain ⟨gf, qq, hgf, hgl, hgw, hgn, hgx⟩ := hF.there (by omega)
              cases hgf
              unfold maxLen at hgx
              have f0 : wr.cell? ⟨gf, i, none⟩ = some (.int .i64 (sn : Int)) := hF.cells (g := gf) rfl i _ (by simp [ints, hs])
              have hli : (i : Int) < (lk.length : Int) := by omega
              have d1 : decide ((sn : Int) < 0) = false := by simp
              have d2 : decide ((n : Int) ≤ (sn : Int)) = false := decide_eq_false (by omega)
              have e0 : lk.take (i + 1) = lk.take i ++ [(sn : Int)] := by rw [List.take_add_one, hs]; rfl
              replace hB := Mr.hid hB
              replace hC := Mr.hid hC
              replace hC2 := Mr.hid hC2
              replace hF := Mr.hid hF
              replace hs := Mr.hid hs
              replace hst := Mr.hid hst
              replace e0 := Mr.hid e0
              go_wp2
              go_quiet (fail)
              have hBq := Bx.draws wr.heap.size wr nq
              have hB6 := hB.out.trans (hBq.mono hB.out.size)
              have hC6 := hC.out.below hBq
              have hD6 := hC2.out.below hBq
              have hF6 := hF.out.below hBq
              clear hBq hB hC hC2 hF y0 y1 y2 y3 y4 y5 y6 y7 y8 f0 ltw hgw
              generalize wr.drewN nq = W6 at *
              have f0 : W6.cell? ⟨gf, i, none⟩ = some (.int .i64 (sn : Int)) := hF6.cells (g := gf) rfl i _ (by simp [ints, hs.out])
              have m0 := hD6.cell sn hsn
              have mz := Has.frozen hD6 (g := gc) rfl
              have mu' := hD6.up sn hsn
              have hct := cts_le (cup P kk ++ lk.take i) sn
              have hlt : (cup P kk ++ lk.take i).length ≤ 10000 := by
                rw [List.length_append, List.length_take]
                have : kk * Kc ≤ 16 * 64 := Nat.mul_le_mul (by omega) hKc
                omega
              have mB := hB6.setCell (p := ⟨gc, sn, none⟩) hgc (.int .i64 ((((cup P kk ++ lk.take i).count (sn : Int) : Nat) : Int) + 1))
              have mC := hC6.far ⟨gc, sn, none⟩ (.int .i64 ((((cup P kk ++ lk.take i).count (sn : Int) : Nat) : Int) + 1)) (by show gc ≠ gm; omega)
              have mF := hF6.setCell ⟨gc, sn, none⟩ (.int .i64 ((((cup P kk ++ lk.take i).count (sn : Int) : Nat) : Int) + 1)) (fun e => by simp [Value.ownBlock] at e; omega)
              have hgcw := hD6.lt
              have hgfw : gf < W6.heap.size := (hF6.lt gf rfl).2
              have hlsn : (sn : Int) < (n : Int) := by omega
              generalize (cup P kk ++ lk.take i).count (sn : Int) = cq at *
              clear hB6 hC6 hD6 hF6
              replace mu' := Mr.hid mu'
              replace mB := Mr.hid mB
              replace mC := Mr.hid mC
              replace mF := Mr.hid mF
              go_upto_region 23 with fail
              clear f0 m0 mz hct hlt hgcw hgfw
              generalize W6.setCell ⟨gc, sn, none⟩ (.int .i64 ((cq : Int) + 1)) = W7 at *
              have f0 : W7.cell? ⟨gf, i, none⟩ = some (.int .i64 (sn : Int)) := mF.out.cells (g := gf) rfl i _ (by simp [ints, hs.out])
              obtain ⟨y0, y1, y2, y3, y4, y5, y6, y7, y8⟩ := TC.out W7 mB.out
              have S0 := ST.out W7.drew mB.out.drew (sn : Int) (hhas.out sn hsn)
              rw [hst.out] at S0
              have K8 := fun (w8 : World) (hB8 : Below W7.heap.size W7 w8) => (⟨mB.out.trans (hB8.mono mB.out.size), mC.out.below hB8, mu'.out.below hB8, mF.out.below hB8⟩ : _ ∧ _ ∧ _ ∧ _)
              have ltw : tb < W7.heap.size := Nat.lt_of_lt_of_le ltb mB.out.size
              have hgfw : gf < W7.heap.size := (mF.out.lt gf rfl).2
              replace S0 := Mr.hid S0
              replace K8 := Mr.hid K8
              go_region_held3 (fun w' => w'.cell? ⟨tb, 7, none⟩ = some (.pointer (some ⟨f.ba, 0, none⟩)) ∧ w'.cell? ⟨gf, i, none⟩ = some (.int .i64 (sn : Int))) (simp [*])
                (first | (go_at_call 29; refine S0.out.mono ?_; clear S0; rintro e w8 ⟨rfl, hB8, _⟩; replace hB8 := ((Below.refl W7.heap.size W7).drew).trans hB8; obtain ⟨n1, n2, n3, n4⟩ := K8.out w8 hB8; clear K8 hB8; have n5 := (TC.out w8 n1).2.2.2.2.2.2.2.1; have n6 : w8.cell? ⟨gf, i, none⟩ = some (.int .i64 (sn : Int)) := n4.cells (g := gf) rfl i _ (by simp [ints, hs.out]); replace n1 := Mr.hid n1; replace n2 := Mr.hid n2; replace n3 := Mr.hid n3; replace n4 := Mr.hid n4))
              go_wp2
              go_roundg (gk - 1)
              case measure => omega
              case rel => exact ⟨i + 1, by simp, by omega, n1.out, n2.out, by rw [e0.out, ← List.append_assoc]; exact n3.out, n4.out⟩
            · have hie : i = lk.length := by omega
              subst hie
              rw [List.take_length, ← hcu.out] at hC2
              replace hB := Mr.hid hB
              replace hC := Mr.hid hC
              replace hC2 := Mr.hid hC2
              go_wp2
              go_roundg (gko - 1)
              case measure => omega
              case rel => exact ⟨kk + 1, by simp, by omega, hB.out, hC.out, hC2.out⟩
        · obtain rfl : kk = nt := by omega
          replace hC2 := Mr.hid hC2
          replace hB := Mr.hid hB
          replace hC := Mr.hid hC
          go_wp2
          go_loopg [15] n (fun k s wz => ∃ t : Nat, s = .int .i64 (t : Int) ∧ t + k = n ∧ Below W.heap.size W wz ∧ Cr wz gm n l ∧ Cr wz gc n (cup P kk))
          case atStart => exact ⟨0, rfl, by omega, hB.out, hC.out, hC2.out⟩
          case round =>
            obtain ⟨t, rfl, ht, hB, hC, hC2⟩ := hrel
            obtain ⟨y0, y1, y2, y3, y4, y5, y6, y7, y8⟩ := TC.out wr hB
            have ltw : tb < wr.heap.size := Nat.lt_of_lt_of_le ltb hB.size
            by_cases htn : t < n
            · have S0 := ST.out wr hB (t : Int) (hhas.out t htn)
              have htn' : (t : Int) < (n : Int) := by omega
              have e1 := hl4.out t htn
              have e2 := hcup.out (t : Int) (hhas.out t htn)
              have K0 := fun (W' : World) (hB' : Below wr.heap.size wr W') => (⟨hB.trans (hB'.mono hB.size), hC.below hB', hC2.below hB', (hC.below hB').cell t htn, (hC2.below hB').cell t htn, (TC.out W' (hB.trans (hB'.mono hB.size)))⟩ : _ ∧ _ ∧ _ ∧ _ ∧ _ ∧ _)
              rw [e1, e2] at K0
              rcases hst : P.A.st (t : Int) with ⟨s1, s2⟩
              rw [hst] at S0 K0
              simp only at K0
              clear e1 e2 hst
              replace S0 := Mr.hid S0
              replace K0 := Mr.hid K0
              replace hB := Mr.hid hB
              replace hC := Mr.hid hC
              replace hC2 := Mr.hid hC2
              by_cases c0 : s1 = 0
              · subst c0
                go_wp2_with (first | (go_at_call 12; refine (num_any _ _).mono ?_; rintro e wn ⟨rfl, hwn⟩; obtain rfl := hwn.symm) | (go_at_call 29; refine S0.out.mono ?_; clear S0; rintro e w8 ⟨rfl, hB8, _⟩; have hl8 := hB8.size; obtain ⟨n1, n2, n3, n4, n5, n6⟩ := K0.out w8 hB8; simp at n4 n5; have g1 := n2.lt; have g2 := n3.lt; clear y0 y1 y2 y3 y4 y5 y6 y7 y8; obtain ⟨y0, y1, y2, y3, y4, y5, y6, y7, y8⟩ := n6; replace n1 := Mr.hid n1; replace n2 := Mr.hid n2; replace n3 := Mr.hid n3; clear hB8 K0))
                go_roundg (gk - 1)
                case measure => omega
                case rel => exact ⟨t + 1, by simp, by omega, n1.out, n2.out, n3.out⟩
              · by_cases c1 : s1 = 1
                · subst c1
                  go_wp2_with (first | (go_at_call 12; refine (num_any _ _).mono ?_; rintro e wn ⟨rfl, hwn⟩; obtain rfl := hwn.symm) | (go_at_call 29; refine S0.out.mono ?_; clear S0; rintro e w8 ⟨rfl, hB8, _⟩; have hl8 := hB8.size; obtain ⟨n1, n2, n3, n4, n5, n6⟩ := K0.out w8 hB8; simp at n4 n5; have g1 := n2.lt; have g2 := n3.lt; clear y0 y1 y2 y3 y4 y5 y6 y7 y8; obtain ⟨y0, y1, y2, y3, y4, y5, y6, y7, y8⟩ := n6; replace n1 := Mr.hid n1; replace n2 := Mr.hid n2; replace n3 := Mr.hid n3; clear hB8 K0))
                  go_roundg (gk - 1)
                  case measure => omega
                  case rel => exact ⟨t + 1, by simp, by omega, n1.out, n2.out, n3.out⟩
                · have b0 : (s1 == 0) = false := by simpa using c0
                  have b1 : (s1 == 1) = false := by simpa using c1
                  have j0 : ¬ s1 = 0 := c0
                  have j1 : ¬ s1 = 1 := c1
                  replace K0 := Mr.hid (fun (W' : World) (hB' : Below wr.heap.size wr W') => (show _ from by have := K0.out W' hB'; rw [if_neg j0, if_neg j1] at this; exact this))
                  clear c0 c1 j0 j1
                  go_wp2_with (first | (go_at_call 12; refine (num_any _ _).mono ?_; rintro e wn ⟨rfl, hwn⟩; obtain rfl := hwn.symm) | (go_at_call 29; refine S0.out.mono ?_; clear S0; rintro e w8 ⟨rfl, hB8, _⟩; have hl8 := hB8.size; obtain ⟨n1, n2, n3, n4, n5, n6⟩ := K0.out w8 hB8; simp at n4 n5; have g1 := n2.lt; have g2 := n3.lt; clear y0 y1 y2 y3 y4 y5 y6 y7 y8; obtain ⟨y0, y1, y2, y3, y4, y5, y6, y7, y8⟩ := n6; replace n1 := Mr.hid n1; replace n2 := Mr.hid n2; replace n3 := Mr.hid n3; clear hB8 K0))
                  go_roundg (gk - 1)
                  case measure => omega
                  case rel => exact ⟨t + 1, by simp, by omega, n1.out, n2.out, n3.out⟩
            · replace hB := Mr.hid hB
              go_wp2
              go_ret
              exact ⟨rfl, hB.out⟩
end Go.Proofs.YtmmjdlbeiaoojaaGreat.Ar
