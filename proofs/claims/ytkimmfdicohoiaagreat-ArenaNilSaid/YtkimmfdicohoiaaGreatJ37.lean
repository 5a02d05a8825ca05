import Derived.Test.YtkimmfdicohoiaaGreatJ36
import Derived.Test.YtkimmfdicohoiaaGreatJ15
import Derived.Test.YtkimmfdicohoiaaGreatJ07
import Derived.Test.YtkimmfdicohoiaaGreatJ32
/-
  A NEW MACHINE with a new arena over the first words.
-/
namespace Go.Proofs.YtkimmfdicohoiaaGreat.Ar
open Go.RowKit Go.Shelf Mr Me Ma Wc Wm Wr
/-- The first words. -/
def fws (c : Cf) (N : Nat) : List Int := (List.range N).map (fstF c.a1 c.a2 c.a5 c.a6 0)
theorem fws_get (c : Cf) (N j : Nat) (hj : j < N) : (fws c N)[j]? = some (fstF c.a1 c.a2 c.a5 c.a6 0 j) := by simp [fws, hj]
theorem fws_len (c : Cf) (N : Nat) : (fws c N).length = N := by simp [fws]
/-- The new machine without the model. -/
def Pa.first (c : Cf) (n nt N m Kc : Nat) : Pa := Pa.new m Kc (Ao.new n nt) nt (fws c N)
theorem inv_first (c : Cf) (n nt N m Kc : Nat) (h5 : c.a5 = n) (hn : 0 < n) (hn2 : n ≤ 1024) (hm : base c.a1 c.a2 c.a5 c.a6 10 = (m : Int)) (hm6 : 6 < m) (hl : m + 4 * n ≤ N) (hN : N ≤ 65536) : Inv (Pa.first c n nt N m Kc) 0 := by
  have key : ∀ j : Nat, fstF c.a1 c.a2 c.a5 c.a6 0 j = if j = 0 then 1 else if j = 3 then 0 else if j = 4 then 0 else if (m : Int) + 0 ≤ (j : Int) ∧ (j : Int) < m + ((n : Int) - 1) then (j : Int) - m + 2 else 0 := fun j => by
    have hlt : (0 : Int) < (n : Int) := by omega
    have hz : ¬ (0 : Int) < 0 := by omega
    have hm' := hm
    rw [h5] at hm'
    simp only [fstF, memF, h5, hm', if_pos hlt, if_neg hz, Int.zero_add]
  have at' : ∀ j, j < N → (fws c N)[j]?.getD 0 = fstF c.a1 c.a2 c.a5 c.a6 0 j := fun j hj => by rw [fws_get c N j hj]; rfl
  refine Inv.start m Kc n nt (fws c N) (by omega) hn hn2 (by rw [fws_len]; omega) ?_ ?_ ?_ ?_
  · rw [at' 0 (by omega), key]; rfl
  · intro s hs
    rw [at' _ (by omega), key, if_neg (by omega), if_neg (by omega), if_neg (by omega), if_pos (by omega)]
    omega
  · rw [at' _ (by omega), key, if_neg (by omega), if_neg (by omega), if_neg (by omega), if_neg (by omega)]
  · intro x hx
    simp only [fws, List.mem_map, List.mem_range] at hx
    obtain ⟨j, hj, rfl⟩ := hx
    rw [key]
    (repeat' split) <;> omega
theorem src_first {w : World} {b N : Nat} (c : Cf) (h : Row w b N (fstF c.a1 c.a2 c.a5 c.a6 0)) : Src w (some ⟨b, 0, none⟩) N N (fws c N) := by
  refine ⟨(fws_len c N).symm, .inr ⟨_, rfl, fun j u hu => ?_⟩⟩
  have hadd : (⟨b, 0, none⟩ : Addr).add j = ⟨b, j, none⟩ := by unfold Addr.add; split <;> simp_all
  have hj : j < N := by have := (List.getElem?_eq_some_iff.1 hu).1; rw [wrd_length, fws_len] at this; exact this
  rw [hadd, h.cell j hj]
  unfold wrd at hu
  rw [List.getElem?_map, fws_get c N j hj] at hu
  exact hu
theorem newM_first {T : Nat → Prop} {w1 w2 w3 : World} {ba gs cs km ca b : Nat} {vca : Value} {vsl : List Value} (c : Cf) (hc : c.ok = true) (n nt N m Kc : Nat) (h5 : c.a5 = n) (h0 : c.a0 = nt) (h4 : c.a4 = Kc) (hN : base c.a1 c.a2 c.a5 c.a6 14 = (N : Int)) (hm : base c.a1 c.a2 c.a5 c.a6 10 = (m : Int)) (hA : Ar w1 T ba gs cs c vca vsl (Ao.new n nt)) (hTl : ∀ k, T k → k < w1.heap.size) (hrow : Row w2 b N (fstF c.a1 c.a2 c.a5 c.a6 0)) (hB12 : Below w1.heap.size w1 w2) (hK : Ktr w3 (fun k => w2.heap.size ≤ k ∧ k < w3.heap.size) km ca ba) (hB23 : Below w2.heap.size w2 w3) :
    Calls Tryz.prog 13 #[.int .i64 (nt : Int), .slice (some ⟨b, 0, none⟩) N N, .map (some km)] w3 fun e w' => ∃ q U h, e = .returned (.tuple #[.pointer (some ⟨q.b, 0, none⟩), .int .i64 0]) ∧ RA w' U (fun k => w2.heap.size ≤ k ∧ k < w3.heap.size) ⟨q, km, ca, ba, gs, cs, c, vca⟩ h (Pa.first c n nt N m Kc) ∧ (∀ k, U k → T k ∨ w3.heap.size ≤ k) ∧ Below w3.heap.size w3 w' := by
  have hc' : cfgB c.a0 c.a1 c.a2 c.a3 c.a4 c.a5 c.a6 = true := hc
  obtain ⟨n', m', e1, e2, e3, e4, e5, e6⟩ := sizes (ok_of hc')
  have en : N = n' := by omega
  have em : m = m' := by omega
  subst en em
  obtain ⟨p1, p2, p3, p4, p5, p6, p7, p8⟩ := ok_of hc'
  have hq : inB c.a0 1 16 = true ∧ inB c.a4 0 64 = true := by
    simp only [cfgB, Bool.and_eq_true] at hc'
    exact ⟨hc'.1.1.1.1.1.1, hc'.1.1.2⟩
  have q0 := inB_iff hq.1
  have q4 := inB_iff hq.2
  have s12 := hB12.size
  have s23 := hB23.size
  have hB13 : Below w1.heap.size w1 w3 := hB12.trans (hB23.mono (by omega))
  have hN8 : N ≤ 8192 := by
    have hb : base c.a1 c.a2 c.a5 c.a6 14 = 6 + c.a6 + c.a1 + c.a1 * c.a2 + 4 * c.a5 := base14 _ _ _ _
    have : c.a1 * c.a2 ≤ 16 * 8 := Int.mul_le_mul p2 p4 (by omega) (by omega)
    omega
  exact newM_arena w3 nt (by omega) (by omega) _ N N (fws c N) (src_first c (hrow.below hB23)) hN8 (hA.kept (fun k hk => hB13.block k (hTl k hk)) (fun _ h => h)) (fun k hk => by have := hTl k hk; omega) hK (fun k hk => hk.2) (fun k hk ht => by have := hTl k ht; omega) m Kc hm h4 (by omega) (inv_first c n nt N m Kc h5 (by omega) (by omega) hm e4 (by omega) e6)
end Go.Proofs.YtkimmfdicohoiaaGreat.Ar
/-
  arena.Play by its contract: a script that may be.
-/
namespace Go.Proofs.YtkimmfdicohoiaaGreat.Ar
open Go.RowKit Go.Shelf Mr Me Ma Wc Wm Wr
def Pa.play (P : Pa) (ms : List Mv) : Pa := ms.foldl (fun P m => (P.move m.th m.op m.arg m.data).1) P
theorem play_snoc (P : Pa) (ms : List Mv) (i : Nat) (hi : i < ms.length) : P.play (ms.take (i + 1)) = ((P.play (ms.take i)).move (ms[i]?.getD noMv).th (ms[i]?.getD noMv).op (ms[i]?.getD noMv).arg (ms[i]?.getD noMv).data).1 := by
  unfold Pa.play
  rw [List.take_add_one, List.foldl_append]
  simp [hi]
theorem RA.below {W w : World} {U K : Nat → Prop} {f : Fx} {h : Wh} {P : Pa} (hR : RA W U K f h P) (hB : Below W.heap.size W w) : RA w U K f h P := by
  refine ⟨⟨fun k o ho => ?_, hR.mch.2.below hB⟩, fun k hk => Nat.lt_of_lt_of_le (hR.tl k hk) hB.size, hR.ar.kept (fun k hk => hB.block k (hR.tl k hk)) (fun _ h => h), fun i t ht => (hR.tob i t ht).kept (fun k hk _ => hB.block k (hR.tl k hk)) (fun _ h => h), hR.dj, hR.ah, hR.kt.kept (fun k hk => hB.block k (hR.ku k hk).2), fun k hk => ⟨(hR.ku k hk).1, Nat.lt_of_lt_of_le (hR.ku k hk).2 hB.size⟩, hR.inv, hR.m, hR.ck, hR.K, hR.vk⟩
  have := hR.mch.1 k o ⟨ho.1, (hB.block k (hR.tl k ho.1)).symm.trans ho.2⟩
  exact ⟨ho.2, this.2⟩
/-- The slots' number stays. -/
theorem work_sl (P : Pa) (b i : Nat) (now : Int) (t : At) (hI : Inv P b) (hb : b < 65536) (ht : P.pts[i]? = some t) : (P.step i t now).1.A.sl.length = P.A.sl.length := by
  have hi : i < P.pts.length := (List.getElem?_eq_some_iff.1 ht).1
  obtain ⟨tk, fr, call⟩ := t
  rcases tk with _ | ⟨kd, k⟩
  · rfl
  · have r := (work_core (now := now) hI hb hi (hI.th i _ kd k ht rfl)).1.frm.ns
    simp only [Pa.step]
    split <;> exact r
theorem move_sl (P : Pa) (hI : Inv P P.n) (th op arg data : Int) : (P.move th op arg data).1.A.sl.length = P.A.sl.length := by
  unfold Pa.move
  split
  · rfl
  · rename_i hn
    split
    · split
      · rfl
      · rename_i t ht
        split
        · exact work_sl P.count P.n _ _ t hI.count (by omega) ht
        · split
          · rfl
          · unfold Pa.begins
            split <;> rfl
    · rfl
theorem play_inv (P : Pa) (hI : Inv P P.n) (ms : List Mv) : Inv (P.play ms) (P.play ms).n ∧ (P.play ms).A.sl.length = P.A.sl.length := by
  induction ms generalizing P with
  | nil => exact ⟨hI, rfl⟩
  | cons x ms ih =>
    have := ih (P.move x.th x.op x.arg x.data).1 (hI.move _ _ _ _)
    exact ⟨this.1, this.2.trans (move_sl P hI _ _ _ _)⟩
end Go.Proofs.YtkimmfdicohoiaaGreat.Ar
