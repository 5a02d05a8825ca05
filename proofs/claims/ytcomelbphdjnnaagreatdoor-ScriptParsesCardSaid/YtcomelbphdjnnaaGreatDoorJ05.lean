import Derived.Test.YtcomelbphdjnnaaGreatDoorJ03
import Derived.BigCall
import Derived.Lib.ItoaLen
import Derived.Test.YtcomelbphdjnnaaGreatDoorJ04
import Derived.Lib.RuneCount
/-
  SCRIPT: filled.
-/
namespace Go.Proofs.YtcomelbphdjnnaaGreatDoor.Sc
open Go.RowKit Mr
set_option linter.unusedVariables false
set_option linter.unusedSimpArgs false
set_option maxRecDepth 100000
theorem get_drop (s : ByteArray) (i : Nat) (h : i < s.size) : s.data.toList.drop i = s[i] :: s.data.toList.drop (i + 1) := by
  have e : s.data.toList.length = s.size := by simp
  rw [List.drop_eq_getElem_cons (by omega)]
  congr 1
theorem itoa_len (n : Int) (h : Bd n) : (Lib.itoa n).length ≤ 21 := Lib.itoa_length_le n h.1 h.2
theorem fil_len : ∀ (f : List UInt8) (ns : List Int), (∀ n ∈ ns, Bd n) → (fil f ns).length ≤ f.length * 21
  | [], _, _ => by simp [fil]
  | c :: r, ns, h => by
    unfold fil
    split
    · cases ns with
      | nil => have := fil_len r [] (by simp); simp; omega
      | cons n ms =>
        have := fil_len r ms (fun x hx => h x (List.mem_cons_of_mem _ hx))
        have h2 := itoa_len n (h n (List.mem_cons_self ..))
        simp; omega
    · have := fil_len r ns h; simp; omega
/-- Where the numbers lie that are left. -/
def Left (B : Nat) (W : World) (a : Option Addr) (n c : Nat) (ns : List Int) : Prop := NmAt W a n ns ∧ n ≤ c ∧ ∀ b off, a = some ⟨b, off, none⟩ → b < B
set_option maxHeartbeats 8000000 in
theorem filled_any (s : ByteArray) (a : Option Addr) (n c : Nat) (ns : List Int) (w : World) (E : Env w) (hN : Left w.heap.size w a n c ns) (hb : ∀ x ∈ ns, Bd x) (hz : zer s.data.toList ≤ ns.length) (ha : ∀ x ∈ s.data.toList, x.toNat < 128) (hs : s.size ≤ 1000000) :
    Calls Tryz.prog 28 #[.string s, .slice a n c] w fun e w' => e = .returned (.string ⟨(fil s.data.toList ns ++ [10]).toArray⟩) ∧ Below w.heap.size w w' := by
  have hfl : Hid ((fil s.data.toList ns).length ≤ 21000000) := by
    have h1 := fil_len s.data.toList ns hb
    have h2 : s.data.toList.length = s.size := by simp
    show _ ≤ _
    omega
  have hE := Mr.hid E
  replace hb := Mr.hid hb
  replace hz := Mr.hid hz
  replace ha := Mr.hid ha
  replace hs := Mr.hid hs
  replace hN := Mr.hid hN
  clear E
  go_enter Tryz.func28, Tryz.ntmps28
  go_upto_region 3 with fail
  go_loopw [1] (fun s1 wr => ∃ (pos : Nat) (a1 : Option Addr) (n1 c1 : Nat) (ns1 : List Int) (acc : List UInt8), s1 = .slice a1 n1 c1 ∧ Left w.heap.size wr a1 n1 c1 ns1 ∧ (∀ x ∈ ns1, Bd x) ∧ zer (s.data.toList.drop pos) ≤ ns1.length ∧ Bl w.heap.size w.heap.size acc wr ∧ wr.heap[w.heap.size + 1]? = some (.stringIter s pos) ∧ Below w.heap.size w wr ∧ Env wr ∧ acc ++ fil (s.data.toList.drop pos) ns1 = fil s.data.toList ns) (fun _ wr => s.size - wr.iterPos (w.heap.size + 1))
  case atStart =>
    refine ⟨0, a, n, c, ns, [], rfl, ?_, hb.out, by simpa using hz.out, (Bl.new w).below ((Below.refl _ _).alloc (Nat.le_refl _) _), ?_, ((Below.refl _ w).alloc (Nat.le_refl _) _).alloc (by simp) _, hE.out.below (((Below.refl _ w).alloc (Nat.le_refl _) _).alloc (by simp) _), by simp⟩
    · exact ⟨hN.out.1.below (((Below.refl _ w).alloc (Nat.le_refl _) _).alloc (by simp) _) hN.out.2.2, hN.out.2⟩
    · have := World.iter_heap (w.alloc (.cells #[.pointer none, .slice none 0 0] 67)) s 0
      simpa using this
  case round =>
    obtain ⟨pos, a1, n1, c1, ns1, acc, rfl, hL, hb1, hz1, hI, hit, hbw, hE1, hacc⟩ := hrel
    have hsz : w.heap.size + 1 < wr.heap.size := (Array.getElem?_eq_some_iff.1 hit).1
    have hal : acc.length ≤ 21000000 := by have := hfl.out; rw [← hacc] at this; simp at this; omega
    by_cases hp : pos < s.size
    · have hc := ha.out (s[pos]) (by have := get_drop s pos hp; exact List.mem_of_mem_drop (i := pos) (by rw [this]; exact List.mem_cons_self ..))
      have hnx : ∀ ty, (Instr.next (.pointer (some ⟨w.heap.size + 1, 0, none⟩)) true ty).run Tryz.prog wr = _ := fun ty => Lib.run_next_ascii_at wr (w.heap.size + 1) s pos ty hit hp hc
      have hI2 := hI.iterAt hit (pos + 1)
      have hit2 := Lib.iterAt_heap wr (w.heap.size + 1) s pos (pos + 1) hit
      have hbw2 := Lib.below_iterAt hbw (k := w.heap.size + 1) (by omega) s (pos + 1)
      have hst := Lib.below_iterAt (Below.refl w.heap.size wr) (k := w.heap.size + 1) (by omega) s (pos + 1)
      have hsz2 : w.heap.size ≤ (wr.iterAt (w.heap.size + 1) s (pos + 1)).heap.size := by rw [Lib.iterAt_size]; omega
      have hE2 : Env (wr.iterAt (w.heap.size + 1) s (pos + 1)) := hE.out.below hbw2
      have hL2 : Left w.heap.size (wr.iterAt (w.heap.size + 1) s (pos + 1)) a1 n1 c1 ns1 := ⟨hL.1.below hst hL.2.2, hL.2⟩
      have hgd := get_drop s pos hp
      have hip : ∀ W : World, W.heap[w.heap.size + 1]? = some (.stringIter s (pos + 1)) → s.size - W.iterPos (w.heap.size + 1) < s.size - wr.iterPos (w.heap.size + 1) := by
        intro W hW
        unfold World.iterPos
        rw [hW, hit]
        dsimp only
        omega
      rw [hgd] at hz1 hacc
      clear hL hst hE1 hI hgd hbw
      generalize s[pos] = c at *
      generalize wr.iterAt (w.heap.size + 1) s (pos + 1) = w2 at *
      replace hL2 := Mr.hid hL2
      replace hE2 := Mr.hid hE2
      replace hI2 := Mr.hid hI2
      replace hit2 := Mr.hid hit2
      replace hbw2 := Mr.hid hbw2
      replace hip := Mr.hid hip
      replace hb1 := Mr.hid hb1
      replace hit := Mr.hid hit
      by_cases h48 : c = 48
      · obtain ⟨x, r, rfl⟩ : ∃ x r, ns1 = x :: r := by
          cases ns1 with
          | nil => simp [zer, h48] at hz1
          | cons x r => exact ⟨x, r, rfl⟩
        have hq : Hid (zer (s.data.toList.drop (pos + 1)) ≤ r.length) := by simp [zer, h48] at hz1; show _ ≤ _; omega
        have hacc2 : Hid ((acc ++ Lib.itoa x) ++ fil (s.data.toList.drop (pos + 1)) r = fil s.data.toList ns) := by
          show _ = _
          rw [← hacc]; simp [fil, h48]
        obtain ⟨⟨hnn, hcl⟩, hnc, hab⟩ := hL2.out
        obtain ⟨g, o, rfl, hgl, hcells⟩ := hcl.resolve_left (by simp)
        have cx := hcells 0 x rfl
        rw [Nat.add_zero] at cx
        have hgB := hab g o rfl
        have n1p : 0 < n1 := by rw [hnn]; simp
        have c1p : 1 ≤ c1 := by omega
        have bx := hb1.out x (List.mem_cons_self ..)
        have lx := itoa_len x bx
        subst h48
        clear hz1 hacc hcells hab hcl
        have hnn' := Mr.hid hnn
        clear hnn
        have f1 : ((48 : Int) != 48) = false := by decide
        have esz : (ito x).size = (Lib.itoa x).length := by simp [ito, ByteArray.size]
        have I1 := Mr.hid (itoa_any x w2 bx hE2.out)
        go_upto_region 8 with (first | (go_at_call 44; refine I1.out.mono ?_; clear I1; rintro e w3 ⟨rfl, B3⟩; have S3 := Mr.hid (writeS_any (ito x) w3 (Bl.below hI2.out B3) (by omega) (Nat.le_trans hsz2 B3.size)); replace B3 := Mr.hid B3) | (go_at_call 27; refine S3.out.mono ?_; clear S3; rintro e w4 ⟨⟨nw, rfl⟩, I4, B4, O4⟩; replace B4 := Mr.hid B4; replace O4 := Mr.hid O4; replace I4 := Mr.hid I4))
        have hit3 : w3.heap[w.heap.size + 1]? = some (.stringIter s (pos + 1)) := (B3.out.block _ (Array.getElem?_eq_some_iff.1 hit2.out).1).trans hit2.out
        have hit4 := Mr.hid (O4.out.iter hit3 (by omega))
        have B24 : Hid (Below w.heap.size w2 w4) := (B3.out.mono hsz2).trans B4.out
        have hL4 : Hid (Left w.heap.size w4 (some ⟨g, o, none⟩) n1 c1 (x :: r)) := ⟨hL2.out.1.below B24.out hL2.out.2.2, hL2.out.2⟩
        have hE4 : Hid (Env w4) := hE.out.below (hbw2.out.trans B24.out)
        clear hit3 hnx cx hgl
        go_wp2
        go_roundw
        case rel =>
          refine ⟨pos + 1, if c1 = 1 then some ⟨g, o, none⟩ else some ⟨g, o + 1, none⟩, n1 - 1, c1 - 1, r, acc ++ Lib.itoa x, ?_, ?_, fun y hy => hb1.out y (List.mem_cons_of_mem _ hy), hq.out, ?_, hit4.out, hbw2.out.trans B24.out, hE4.out, hacc2.out⟩
          · rfl
          · have hL := hL4.out
            have e1 := hnn'.out
            simp at e1
            refine ⟨⟨by omega, ?_⟩, by omega, ?_⟩
            · by_cases h1 : c1 = 1
              · left
                exact List.eq_nil_of_length_eq_zero (by omega)
              · rw [if_neg h1]
                obtain ⟨g', o', e2, hg', hc'⟩ := hL.1.2.resolve_left (by simp)
                cases e2
                exact .inr ⟨g, o + 1, rfl, hg', fun j y hy => by have := hc' (j + 1) y (by simpa using hy); rwa [Nat.add_assoc, Nat.add_comm 1 j]⟩
            · intro b off hb'
              split at hb' <;> (cases hb'; exact hgB)
          · have := I4.out; simpa [ito] using this
        case measure => exact hip.out w4 hit4.out
      · have f1 : ((c.toNat : Int) != 48) = true := by
          have : c.toNat ≠ 48 := fun e => h48 (by apply UInt8.toNat_inj.1; simpa using e)
          simp; omega
        have f2 : ((c.toNat : Int) == 48) = false := by
          have : c.toNat ≠ 48 := fun e => h48 (by apply UInt8.toNat_inj.1; simpa using e)
          simp; omega
        have hq : Hid (zer (s.data.toList.drop (pos + 1)) ≤ ns1.length) := by simp [zer, h48] at hz1; exact hz1
        have hacc2 : Hid ((acc ++ [c]) ++ fil (s.data.toList.drop (pos + 1)) ns1 = fil s.data.toList ns) := by
          show _ = _
          rw [← hacc]; simp [fil, h48]
        have S2 := Mr.hid (writeR_any c hc w2 hI2.out (by omega) hsz2)
        clear hz1 hacc hc h48
        generalize (c.toNat : Int) = x at *
        go_wp2_with (go_at_call 43; refine S2.out.mono ?_; clear S2; rintro e w4 ⟨⟨nw, rfl⟩, I4, B4, O4⟩; replace B4 := Mr.hid B4; replace O4 := Mr.hid O4; replace I4 := Mr.hid I4)
        have hit4 := Mr.hid (O4.out.iter hit2.out (by omega))
        go_roundw
        case rel => exact ⟨pos + 1, a1, n1, c1, ns1, acc ++ [c], rfl, ⟨hL2.out.1.below B4.out hL2.out.2.2, hL2.out.2⟩, hb1.out, hq.out, I4.out, hit4.out, hbw2.out.trans B4.out, hE.out.below (hbw2.out.trans B4.out), hacc2.out⟩
        case measure => exact hip.out w4 hit4.out
    · have hnx : ∀ ty, (Instr.next (.pointer (some ⟨w.heap.size + 1, 0, none⟩)) true ty).run Tryz.prog wr = _ := fun ty => Lib.run_next_end_at wr (w.heap.size + 1) s pos ty hit hp
      have hfin : acc = fil s.data.toList ns := by
        have e : s.data.toList.drop pos = [] := List.drop_eq_nil_of_le (by simp; omega)
        rw [e] at hacc
        simpa [fil] using hacc
      have S2 := Mr.hid (string_any wr hI (by omega))
      have hbw' := Mr.hid hbw
      have hts : (⟨acc.toArray⟩ : ByteArray).size ≤ 21000000 := by simpa [ByteArray.size] using hal
      have hcat : Hid ((⟨acc.toArray⟩ : ByteArray) ++ ⟨#[10]⟩ = ⟨(fil s.data.toList ns ++ [10]).toArray⟩) := by
        show _ = _
        rw [← hfin]
        apply ByteArray.ext
        simp
      clear hL hb1 hz1 hI hit hbw hE1 hacc hp hal hfin
      generalize (⟨acc.toArray⟩ : ByteArray) = T at *
      go_wp2_with (go_at_call 30; refine S2.out.mono ?_; clear S2; rintro e w4 ⟨rfl, B4⟩; replace B4 := Mr.hid B4)
      go_ret
      exact ⟨by rw [← hcat.out]; rfl, hbw'.out.trans B4.out⟩
end Go.Proofs.YtcomelbphdjnnaaGreatDoor.Sc
/-
  SCRIPT: wordsOf.
-/
namespace Go.Proofs.YtcomelbphdjnnaaGreatDoor.Sc
open Go.RowKit Mr
set_option linter.unusedVariables false
set_option linter.unusedSimpArgs false
set_option maxRecDepth 100000
def strs (ws : List (List UInt8)) : List Value := ws.map (fun l => Value.string ⟨l.toArray⟩)
theorem strs_one (ws : List (List UInt8)) : ∀ u ∈ strs ws, u.oneCell' = true := by
  intro u hu
  simp only [strs, List.mem_map] at hu
  obtain ⟨l, _, rfl⟩ := hu
  rfl
theorem info_s : ∃ i, Tryz.prog.info? 9 = some i ∧ i.zero = some (.string ⟨#[]⟩) ∧ i.size = 1 ∧ i.bytes = 16 := by
  have h : (Tryz.prog.info? 9).map (fun i => (i.zero, i.size, i.bytes)) = some (some (.string ⟨#[]⟩), 1, 16) := by kernel_rfl
  cases hi : Tryz.prog.info? 9 with
  | none => rw [hi] at h; cases h
  | some i => rw [hi] at h; simp at h; exact ⟨i, rfl, h.1, h.2.1, h.2.2⟩
def blI (r : Int) : Bool := (r == 32) || (r == 9) || (r == 13)
theorem isBlank_any (r : Int) (w : World) : Calls Tryz.prog 50 #[.int .i32 r] w fun e w' => e = .returned (.bool (blI r)) ∧ w' = w := by
  have key : ∀ (b1 b2 b3 : Bool), (r == 32) = b1 → (r == 9) = b2 → (r == 13) = b3 → Calls Tryz.prog 50 #[.int .i32 r] w fun e w' => e = .returned (.bool (b1 || b2 || b3)) ∧ w' = w := by
    intro b1 b2 b3 e1 e2 e3
    cases b1 <;> cases b2 <;> cases b3 <;> (
      go_enter Tryz.func50, Tryz.ntmps50
      go_wp2
      go_ret
      exact ⟨rfl, rfl⟩)
  exact key _ _ _ rfl rfl rfl
theorem blI_ascii (c : UInt8) : blI (c.toNat : Int) = bl c := by
  unfold blI bl
  have h : ∀ (k : UInt8), ((c.toNat : Int) == (k.toNat : Int)) = (c == k) := by
    intro k
    by_cases e : c = k
    · subst e; simp
    · have : c.toNat ≠ k.toNat := fun e2 => e (UInt8.toNat_inj.1 e2)
      rw [beq_eq_false_iff_ne.2 e, beq_eq_false_iff_ne.2 (by omega)]
  rw [← h 32, ← h 9, ← h 13]
  rfl
theorem blI_high (r : Int) (h : 128 ≤ r) : blI r = false := by
  unfold blI
  rw [beq_eq_false_iff_ne.2 (by omega), beq_eq_false_iff_ne.2 (by omega), beq_eq_false_iff_ne.2 (by omega)]
  rfl
/-- What wordsOf has come to. -/
structure Wi (w : World) (s : ByteArray) (wr : World) (v : Value) (bg : Int) (pos : Nat) (acc : List (List UInt8)) (cur : Option (List UInt8)) : Prop where
  row : Has wr (fun k => w.heap.size < k) 9 1 v acc.length (strs acc)
  bel : Below w.heap.size w wr
  it : wr.heap[w.heap.size]? = some (.stringIter s pos)
  le : pos ≤ s.size
  len : acc.length ≤ pos
  cr : (cur = none ∧ bg = -1) ∨ ∃ b : Nat, bg = b ∧ b ≤ pos ∧ cur = some (s.extract b pos).data.toList
  eq : acc ++ wgo cur (s.data.toList.drop pos) = words s.data.toList
theorem ext_list (a : ByteArray) (i j : Nat) : (a.extract i j).data.toList = (a.data.toList.take j).drop i := by
  rw [ByteArray.data_extract, Array.toList_extract, List.extract_eq_take_drop, List.drop_take]
theorem ext_more {l h : List UInt8} {pos wd b : Nat} (hl : pos + wd ≤ l.length) (hh : h.length = wd) (e : l.drop pos = h ++ l.drop (pos + wd)) (hb : b ≤ pos) : (l.take (pos + wd)).drop b = (l.take pos).drop b ++ h := by
  have e1 : l.take (pos + wd) = l.take pos ++ h := by
    rw [List.take_add, e, List.take_left' hh]
  rw [e1, List.drop_append_of_le_length (by rw [List.length_take]; omega)]
/-- The rune at a place, and its bytes. -/
structure Rn (s : ByteArray) (pos : Nat) (rr : Int) (wd : Nat) (h : List UInt8) : Prop where
  r : ((Utf8.decode s pos).1 : Int) = rr
  n : (Utf8.decode s pos).2 = wd
  pos1 : 1 ≤ wd
  le : pos + wd ≤ s.size
  drop : s.data.toList.drop pos = h ++ s.data.toList.drop (pos + wd)
  ext : ∀ b, b ≤ pos → (s.extract b (pos + wd)).data.toList = (s.extract b pos).data.toList ++ h
  kind : (∃ c : UInt8, blI rr = bl c ∧ (rr == 35) = (c == 35) ∧ h = [c]) ∨ (blI rr = false ∧ (rr == 35) = false ∧ (∀ c ∈ h, 128 ≤ c.toNat) ∧ h ≠ [])
theorem rune_at (s : ByteArray) (pos : Nat) (hp : pos < s.size) : ∃ rr wd h, Rn s pos rr wd h := by
  have hlen : s.data.toList.length = s.size := by simp
  have hgd := get_drop s pos hp
  by_cases ha : s[pos].toNat < 128
  · have hd := decode_ascii s pos hp ha
    refine ⟨_, 1, [s[pos]], rfl, by rw [hd], Nat.le_refl _, by omega, by rw [hgd]; rfl, fun b hb => ?_, .inl ⟨s[pos], ?_, ?_, rfl⟩⟩
    · rw [ext_list, ext_list]
      exact ext_more (by omega) rfl (by rw [hgd]; rfl) hb
    · rw [hd]; exact blI_ascii _
    · rw [hd]
      by_cases e : s[pos] = 35
      · rw [e]; rfl
      · have : s[pos].toNat ≠ 35 := fun e2 => e (UInt8.toNat_inj.1 (by simpa using e2))
        rw [beq_eq_false_iff_ne.2 e, beq_eq_false_iff_ne.2 (by simp only; omega)]
  · obtain ⟨h1, h2⟩ := decode_high s pos hp (by omega)
    obtain ⟨h3, h4⟩ := decode_bytes s pos hp (by omega)
    have e1 : s.data.toList.drop pos = (s.data.toList.drop pos).take (Utf8.decode s pos).2 ++ s.data.toList.drop (pos + (Utf8.decode s pos).2) := by
      rw [← List.drop_drop, List.take_append_drop]
    have e2 : ((s.data.toList.drop pos).take (Utf8.decode s pos).2).length = (Utf8.decode s pos).2 := by
      rw [List.length_take, List.length_drop]; omega
    refine ⟨_, _, (s.data.toList.drop pos).take (Utf8.decode s pos).2, rfl, rfl, h2, h3, e1, fun b hb => ?_, .inr ⟨blI_high _ (by omega), beq_eq_false_iff_ne.2 (by omega), ?_, ?_⟩⟩
    · rw [ext_list, ext_list]
      exact ext_more (by omega) e2 e1 hb
    · intro c hc
      obtain ⟨j, hj, rfl⟩ := List.getElem_of_mem hc
      rw [e2] at hj
      have := h4 (pos + j) (by omega) (by omega) (by omega)
      simp only [List.getElem_take, List.getElem_drop]
      exact this
    · intro e0
      rw [e0] at e2
      simp at e2
      omega
/-- The iterator has moved on; nothing else has. -/
theorem Wi.next {w wr : World} {s : ByteArray} {v : Value} {bg : Int} {pos : Nat} {acc : List (List UInt8)} {cur : Option (List UInt8)} (h : Wi w s wr v bg pos acc cur) (p : Nat) :
    Has (wr.iterAt w.heap.size s p) (fun k => w.heap.size < k) 9 1 v acc.length (strs acc) ∧ Below w.heap.size w (wr.iterAt w.heap.size s p) ∧ (wr.iterAt w.heap.size s p).heap[w.heap.size]? = some (.stringIter s p) := by
  refine ⟨h.row.kept (fun k hk => Lib.iterAt_other wr w.heap.size k s p (by have := (h.row.lt k hk).1; omega)) (fun k hk => (h.row.lt k hk).1), Lib.below_iterAt h.bel (Nat.le_refl _) s p, Lib.iterAt_heap wr w.heap.size s pos p h.it⟩
set_option maxHeartbeats 8000000 in
theorem wordsOf_any (s : ByteArray) (w : World) (hs : s.size ≤ 1048576) :
    Calls Tryz.prog 36 #[.string s] w fun e w' => ∃ v, e = .returned v ∧ Has w' (fun k => w.heap.size < k) 9 1 v (words s.data.toList).length (strs (words s.data.toList)) ∧ Below w.heap.size w w' := by
  obtain ⟨ii, hii, hz0, hz1, hz2⟩ := info_s
  have hlen : s.data.toList.length = s.size := by simp
  go_enter Tryz.func36, Tryz.ntmps36
  go_upto_region 4 with fail
  go_loopw [3, 4] (fun s3 s4 wr => ∃ (v : Value) (bg : Int) (pos : Nat) (acc : List (List UInt8)) (cur : Option (List UInt8)), s3 = v ∧ s4 = .int .i64 bg ∧ Wi w s wr v bg pos acc cur) (fun _ _ wr => s.size - wr.iterPos w.heap.size)
  case atStart =>
    refine ⟨_, _, 0, [], none, rfl, rfl, ⟨Has.nil _ _ _ _, (Below.refl _ _).alloc (Nat.le_refl _) _, World.iter_heap w s 0, Nat.zero_le _, by simp, .inl ⟨rfl, rfl⟩, by simp [words]⟩⟩
  case round =>
    obtain ⟨v, bg, pos, acc, cur, rfl, rfl, hW⟩ := hrel
    obtain ⟨av, cv, rfl, hcv⟩ := hW.row.form
    have hip : ∀ (W : World) (p : Nat), W.heap[w.heap.size]? = some (.stringIter s p) → pos < s.size → pos < p → s.size - W.iterPos w.heap.size < s.size - wr.iterPos w.heap.size := by
      intro W p hW2 h1 h2
      unfold World.iterPos
      rw [hW2, hW.it]
      dsimp only
      omega
    by_cases hp : pos < s.size
    · have hwd := Lib.decode_width_pos s pos hp
      have hnx : ∀ ty, (Instr.next (.pointer (some ⟨w.heap.size, 0, none⟩)) true ty).run Tryz.prog wr = _ := fun ty => Lib.run_next_any_at wr w.heap.size s pos ty hW.it hp
      have hgd := get_drop s pos hp
      obtain ⟨rr, wd, h, hR⟩ := rune_at s pos hp
      rw [hR.r, hR.n] at hnx
      obtain ⟨hrow, hbel, hit2⟩ := hW.next (pos + wd)
      have hst := hip (wr.iterAt w.heap.size s (pos + wd)) (pos + wd) hit2 hp (by have := hR.pos1; omega)
      have hx := hR.ext
      have hdr := hR.drop
      have hle := hR.le
      have hp1 := hR.pos1
      have hkd := hR.kind
      have hacl := hW.len
      have heq := hW.eq
      have hcr := hW.cr
      clear hR hgd hwd hW hp
      replace hip := Mr.hid hip
      generalize wr.iterAt w.heap.size s (pos + wd) = w2 at *
      replace hx := Mr.hid hx
      have bB := Mr.hid (fun W => isBlank_any rr W)
      replace hrow := Mr.hid hrow
      replace hbel := Mr.hid hbel
      replace hit2 := Mr.hid hit2
      rw [hdr] at heq
      replace heq := Mr.hid heq
      clear hdr
      rcases hcr with ⟨hc0, hb0⟩ | ⟨b, hb0, hbp, hc0⟩
      · -- outside of a word
        subst hc0
        subst hb0
        cases hβ : blI rr with
        | true =>
          rcases hkd with ⟨c, k1, k2, rfl⟩ | ⟨k1, _⟩
          · have hbc : bl c = true := by rw [← k1, hβ]
            have h35 : (rr == 35) = false := by
              rw [k2]
              cases e : (c == 35) with
              | false => rfl
              | true => rw [eq_of_beq e] at hbc; exact absurd hbc (by decide)
            have heq2 : Hid (acc ++ wgo none (s.data.toList.drop (pos + wd)) = words s.data.toList) := by
              have := heq.out; simp only [List.cons_append, List.nil_append, wgo, hbc, if_true] at this; exact this
            rw [hβ] at bB
            clear heq k1 k2 hbc hβ
            go_wp2_with (go_at_call 50; refine (bB.out _).mono ?_; rintro e w9 ⟨rfl, hw9⟩; obtain rfl := hw9.symm)
            go_roundw
            case rel => exact ⟨_, _, pos + wd, acc, none, rfl, rfl, ⟨hrow.out, hbel.out, hit2.out, hle, by omega, .inl ⟨rfl, rfl⟩, heq2.out⟩⟩
            case measure => exact hst
          · rw [hβ] at k1; cases k1
        | false =>
          rw [hβ] at bB
          cases hγ : (rr == 35) with
          | true =>
            have hfin : Hid (words s.data.toList = acc) := by
              rcases hkd with ⟨c, k1, k2, rfl⟩ | ⟨k1, k2, _⟩
              · have h35 : c = 35 := eq_of_beq (by rw [← k2, hγ])
                have hbc : bl c = false := by rw [← k1, hβ]
                have := heq.out
                simp only [List.cons_append, List.nil_append, wgo, hbc, h35] at this
                rw [h35] at hbc
                simp [hbc] at this
                exact this.symm
              · rw [hγ] at k2; cases k2
            clear heq hkd hβ hst
            go_wp2_with (go_at_call 50; refine (bB.out _).mono ?_; rintro e w9 ⟨rfl, hw9⟩; obtain rfl := hw9.symm)
            go_ret
            exact ⟨_, rfl, by rw [hfin.out]; exact hrow.out, hbel.out⟩
          | false =>
            have heq2 : Hid (acc ++ wgo (some (s.extract pos (pos + wd)).data.toList) (s.data.toList.drop (pos + wd)) = words s.data.toList) := by
              have e0 : (s.extract pos (pos + wd)).data.toList = h := by
                rw [hx.out pos (Nat.le_refl _), ext_list, List.drop_take_self]; rfl
              have := heq.out
              show _ = _
              rw [e0]
              rcases hkd with ⟨c, k1, k2, rfl⟩ | ⟨k1, k2, k3, k4⟩
              · have h35 : ¬ c = 35 := fun e => by rw [e] at k2; rw [hγ] at k2; exact absurd k2 (by decide)
                have hbc : bl c = false := by rw [← k1, hβ]
                simp only [List.cons_append, List.nil_append, wgo, hbc, h35] at this
                simpa using this
              · rw [wgo_high h none _ k3 k4] at this
                simpa using this
            clear heq hkd hβ
            go_wp2_with (go_at_call 50; refine (bB.out _).mono ?_; rintro e w9 ⟨rfl, hw9⟩; obtain rfl := hw9.symm)
            go_roundw
            case rel => exact ⟨_, _, pos + wd, acc, _, rfl, rfl, ⟨hrow.out, hbel.out, hit2.out, hle, by omega, .inr ⟨pos, rfl, by omega, rfl⟩, heq2.out⟩⟩
            case measure => exact hst
      · -- inside of one
        subst hc0
        subst hb0
        have db : decide ((0 : Int) ≤ (b : Int)) = true := by simp
        cases hβ : blI rr with
        | false =>
          rw [hβ] at bB
          have heq2 : Hid (acc ++ wgo (some (s.extract b (pos + wd)).data.toList) (s.data.toList.drop (pos + wd)) = words s.data.toList) := by
            have := heq.out
            show _ = _
            rw [hx.out b hbp]
            rcases hkd with ⟨c, k1, k2, rfl⟩ | ⟨k1, k2, k3, k4⟩
            · have hbc : bl c = false := by rw [← k1, hβ]
              simp only [List.cons_append, List.nil_append, wgo, hbc] at this
              simpa using this
            · rw [wgo_high h _ _ k3 k4] at this
              simpa using this
          clear heq hkd hβ
          go_wp2_with (go_at_call 50; refine (bB.out _).mono ?_; rintro e w9 ⟨rfl, hw9⟩; obtain rfl := hw9.symm)
          go_roundw
          case rel => exact ⟨_, _, pos + wd, acc, _, rfl, rfl, ⟨hrow.out, hbel.out, hit2.out, hle, by omega, .inr ⟨b, rfl, by omega, rfl⟩, heq2.out⟩⟩
          case measure => exact hst
        | true =>
          rw [hβ] at bB
          have heq2 : Hid ((acc ++ [(s.extract b pos).data.toList]) ++ wgo none (s.data.toList.drop (pos + wd)) = words s.data.toList) := by
            have := heq.out
            show _ = _
            rcases hkd with ⟨c, k1, k2, rfl⟩ | ⟨k1, _⟩
            · have hbc : bl c = true := by rw [← k1, hβ]
              simp only [List.cons_append, List.nil_append, wgo, hbc, if_true] at this
              rw [List.append_assoc]
              exact this
            · rw [hβ] at k1; cases k1
          clear heq hkd hβ
          have q1 : (0 : Int) ≤ (b : Int) := by omega
          have q2 : (b : Int) ≤ (pos : Int) := by omega
          have q3 : (pos : Int) ≤ (s.size : Int) := by omega
          go_upto_region 8 with (go_at_call 50; refine (bB.out _).mono ?_; rintro e w9 ⟨rfl, hw9⟩; obtain rfl := hw9.symm)
          obtain ⟨T, hT⟩ : ∃ T, s.extract b pos = T := ⟨_, rfl⟩
          have hT' : Hid ((strs acc) ++ [.string T] = strs (acc ++ [(s.extract b pos).data.toList])) := by
            show _ = _
            rw [hT]
            simp [strs]
          rw [hT] at heq2
          have hT2 := Mr.hid hT
          go_wp2_with (at_builtin; refine wpList_append_has _ rfl _ _ 58 rfl (fun k => w.heap.size < k) 9 ii (.string ⟨#[]⟩) 1 16 Tryz.underlying58 hii hz0 hz1 hz2 rfl _ _ _ rfl (hrow.out.alloc _) ⟨w2.heap.size, 0, none⟩ 1 1 [.string T] rfl rfl ?c1 ?c2 ?c3 ?c4 ?c5 ?c6 ?_)
          case c1 =>
            intro j u hj
            match j, hj with
            | 0, hj => simp at hj; subst hj; simp [Addr.add]
          case c2 => intro u hu; simp at hu; subst hu; rfl
          case c3 => decide
          case c4 => unfold maxLen; omega
          case c5 => omega
          case c6 => simp; have := hbel.out.size; omega
          intro g cap w3 hh hgr hgg
          have hit3 : w3.heap[w.heap.size]? = some (.stringIter s (pos + wd)) := (hgr.block _ (by have := (Array.getElem?_eq_some_iff.1 hit2.out).1; simp; omega) (fun e => by have := (hrow.out.lt _ e.symm).1; omega)).trans ((Lib.alloc_old w2 _ _ (Array.getElem?_eq_some_iff.1 hit2.out).1).trans hit2.out)
          have hb3 : Below w.heap.size w w3 := (hbel.out.alloc hbel.out.size _).grown hgr (by have := hbel.out.size; simp; omega) (fun k hk => Nat.le_of_lt (hrow.out.lt k hk).1)
          have hst3 := hip.out w3 (pos + wd) hit3 (by omega) (by omega)
          have hl3 : (acc ++ [T.data.toList]).length = acc.length + 1 := by simp
          have hh2 : Hid (Has w3 (fun k => w.heap.size < k) 9 1 (.slice (some ⟨g, 0, none⟩) (acc.length + 1) cap) (acc ++ [T.data.toList]).length (strs (acc ++ [T.data.toList]))) := by
            have e1 := hT'.out
            rw [hT2.out] at e1
            show Has _ _ _ _ _ _ _
            rw [hl3, ← e1]
            exact hh
          replace hit3 := Mr.hid hit3
          replace hb3 := Mr.hid hb3
          clear hh hgr hgg hl3
          go_wp2
          go_roundw
          case rel => exact ⟨_, _, pos + wd, acc ++ [T.data.toList], none, rfl, rfl, ⟨hh2.out, hb3.out, hit3.out, hle, by simp; omega, .inl ⟨rfl, rfl⟩, heq2.out⟩⟩
          case measure => exact hst3
    · have hnx : ∀ ty, (Instr.next (.pointer (some ⟨w.heap.size, 0, none⟩)) true ty).run Tryz.prog wr = _ := fun ty => Lib.run_next_end_at wr w.heap.size s pos ty hW.it hp
      have hdn : s.data.toList.drop pos = [] := List.drop_eq_nil_of_le (by omega)
      have heq := hW.eq
      rw [hdn] at heq
      have hple := hW.le
      obtain rfl : pos = s.size := by omega
      have hacl := hW.len
      have hcr := hW.cr
      have hrow := Mr.hid hW.row
      have hbel := Mr.hid hW.bel
      clear hip hW hdn hp
      rcases hcr with ⟨hc0, hb0⟩ | ⟨b, hb0, hbp, hc0⟩
      · subst hc0
        subst hb0
        have hfin : Hid (words s.data.toList = acc) := by show _ = _; rw [← heq]; simp [wgo]
        clear heq
        go_wp2
        go_ret
        exact ⟨_, rfl, by rw [hfin.out]; exact hrow.out, hbel.out⟩
      · subst hc0
        subst hb0
        have db : decide ((0 : Int) ≤ (b : Int)) = true := by simp
        have q1 : (0 : Int) ≤ (b : Int) := by omega
        have q2 : (b : Int) ≤ (s.size : Int) := by omega
        obtain ⟨T, hT⟩ : ∃ T, s.extract b s.size = T := ⟨_, rfl⟩
        have hfin : Hid (words s.data.toList = acc ++ [T.data.toList]) := by show _ = _; rw [← heq, hT]; simp [wgo]
        have hT' : Hid ((strs acc) ++ [.string T] = strs (acc ++ [T.data.toList])) := by
          show _ = _
          simp [strs]
        clear heq
        go_wp2_with (at_builtin; refine wpList_append_has _ rfl _ _ 58 rfl (fun k => w.heap.size < k) 9 ii (.string ⟨#[]⟩) 1 16 Tryz.underlying58 hii hz0 hz1 hz2 rfl _ _ _ rfl (hrow.out.alloc _) ⟨wr.heap.size, 0, none⟩ 1 1 [.string T] rfl rfl ?c1 ?c2 ?c3 ?c4 ?c5 ?c6 ?_)
        case c1 =>
          intro j u hj
          match j, hj with
          | 0, hj => simp at hj; subst hj; simp [Addr.add]
        case c2 => intro u hu; simp at hu; subst hu; rfl
        case c3 => decide
        case c4 => unfold maxLen; omega
        case c5 => omega
        case c6 => simp; have := hbel.out.size; omega
        intro g cap w3 hh hgr hgg
        have hb3 : Below w.heap.size w w3 := (hbel.out.alloc hbel.out.size _).grown hgr (by have := hbel.out.size; simp; omega) (fun k hk => Nat.le_of_lt (hrow.out.lt k hk).1)
        have hl3 : (acc ++ [T.data.toList]).length = acc.length + 1 := by simp
        have hh2 : Hid (Has w3 (fun k => w.heap.size < k) 9 1 (.slice (some ⟨g, 0, none⟩) (acc.length + 1) cap) (acc ++ [T.data.toList]).length (strs (acc ++ [T.data.toList]))) := by
          show Has _ _ _ _ _ _ _
          rw [hl3, ← hT'.out]
          exact hh
        replace hb3 := Mr.hid hb3
        clear hh hgr hgg hl3
        go_wp2
        go_ret
        exact ⟨_, rfl, by rw [hfin.out]; exact hh2.out, hb3.out⟩
end Go.Proofs.YtcomelbphdjnnaaGreatDoor.Sc
