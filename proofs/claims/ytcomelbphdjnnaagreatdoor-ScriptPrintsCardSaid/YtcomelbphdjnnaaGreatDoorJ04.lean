import Derived.Test.YtcomelbphdjnnaaGreatDoorChecked
import Derived.WalkKit
import Derived.ProofKit
import Derived.OpenShut
import Derived.Below
import Derived.Test.YtcomelbphdjnnaaGreatDoorJ03
import Derived.BigCall
import Derived.Lib.ItoaLen
/-
  OPENING a struct by value whose fields are all int (api.Config, api.Place).
-/
namespace Go.Proofs.YtcomelbphdjnnaaGreatDoor.Opn
open Go.ChangeShapes Go.WideShapes Go.ChangeAt Go.RowKit
section
variable {H : Type} {enc : TypeId × Value → H} {P : Program} {w : World} {base : Nat} {spare : Nat → Bool} {held : Bool}

theorem open_struct_ints {r : Reach} {b0 : Nat} {t : TypeId} {fs : Array Field} {v : Value} {d : DataW H} {p : List MemPlace} (hs : P.underlying t = some (.struct fs)) (hC : P.cellsOf t = fs.size)
    (hf : ∀ (i : Nat) (f : Field), fs[i]? = some f → f.offset = i ∧ P.cellsOf f.type = 1 ∧ P.underlying f.type = some (.int .i64))
    (hv : Value.okWide P w r b0 t v) (h : DataW.Trod enc P w base spare held t v d p) :
    ∃ zs : List Int, zs.length = fs.size ∧ v = .agg (zs.map (Value.int .i64 ·)).toArray ∧ (∀ z ∈ zs, (Lit.int .i64 z).wf = true) := by
  obtain ⟨cs, rfl, hsz⟩ := okWide_struct hs hv
  obtain ⟨fuel, hfu⟩ := h
  obtain ⟨xs, n, _, _, hl, hxl, hx⟩ := DataW.trod_struct hs hfu
  have key : ∀ i (hi : i < cs.size), ∃ z, cs[i] = Value.int .i64 z ∧ (Lit.int .i64 z).wf = true := by
    intro i hi
    have hi' : i < fs.size := by omega
    obtain ⟨o, c1, u⟩ := hf i fs[i] (by simp [hi'])
    have hxi : i < xs.length := by omega
    have q := hx i fs[i] (by simp [hi'])
    rw [o, c1] at q
    have hcells : (Value.agg cs).cells.toList = cs.toList := rfl
    rw [hcells] at q
    have e1 : (cs.toList.drop i).take 1 = [cs[i]] := by
      rw [List.drop_eq_getElem_cons (by simpa using hi)]; simp
    rw [e1, List.getElem?_eq_getElem hxi] at q
    obtain ⟨z, hz, _, hw⟩ := DataW.trod_int u q
    exact ⟨z, by simpa using hz, hw⟩
  refine ⟨cs.toList.map intOf, by simp [hsz, hC], ?_, ?_⟩
  · congr 1
    apply Array.ext
    · simp
    · intro i h1 h2
      obtain ⟨z, hz, _⟩ := key i h1
      simp [hz, intOf]
  · intro z hz
    simp only [List.mem_map] at hz
    obtain ⟨v, hv', rfl⟩ := hz
    obtain ⟨i, hi, rfl⟩ := List.getElem_of_mem hv'
    obtain ⟨z, hz, hw⟩ := key i (by simpa using hi)
    simp [hz, intOf, hw]
end

theorem cells_cfg : Tryz.prog.cellsOf 23 = 7 := by kernel_rfl
set_option maxRecDepth 100000 in
theorem open_cfg {H : Type} {enc : TypeId × Value → H} {w : World} {base : Nat} {spare : Nat → Bool} {held : Bool} {r : Reach} {b0 : Nat} {v : Value} {d : DataW H} {p : List MemPlace}
    (hv : Value.okWide Tryz.prog w r b0 23 v) (h : DataW.Trod enc Tryz.prog w base spare held 23 v d p) :
    ∃ a0 a1 a2 a3 a4 a5 a6 : Int, v = .agg #[.int .i64 a0, .int .i64 a1, .int .i64 a2, .int .i64 a3, .int .i64 a4, .int .i64 a5, .int .i64 a6] ∧
      ((Lit.int .i64 a0).wf = true ∧ (Lit.int .i64 a1).wf = true ∧ (Lit.int .i64 a2).wf = true ∧ (Lit.int .i64 a3).wf = true ∧ (Lit.int .i64 a4).wf = true ∧ (Lit.int .i64 a5).wf = true ∧ (Lit.int .i64 a6).wf = true) := by
  obtain ⟨zs, hl, hvv, hw⟩ := open_struct_ints Tryz.underlying23 cells_cfg (by
    intro i f hi
    rcases i with _ | _ | _ | _ | _ | _ | _ | i <;> simp at hi <;> subst hi <;> exact ⟨rfl, by kernel_rfl, Tryz.underlying3⟩) hv h
  match zs, hl with
  | [a0, a1, a2, a3, a4, a5, a6], _ =>
    exact ⟨a0, a1, a2, a3, a4, a5, a6, hvv, hw a0 (by simp), hw a1 (by simp), hw a2 (by simp), hw a3 (by simp), hw a4 (by simp), hw a5 (by simp), hw a6 (by simp)⟩
end Go.Proofs.YtcomelbphdjnnaaGreatDoor.Opn
/-
  SCRIPT: filled.
-/
namespace Go.Proofs.YtcomelbphdjnnaaGreatDoor.Sc
open Go.RowKit Mr
set_option linter.unusedVariables false
set_option linter.unusedSimpArgs false
set_option maxRecDepth 100000
theorem get_drop (s : ByteArray) (i : Nat) (h : i < s.size) : s.data.toList.drop i = s[i] :: s.data.toList.drop (i + 1) := by
  have e : s.data.toList.length = s.size := by simp
  rw [List.drop_eq_getElem_cons (by omega)]
  congr 1
theorem itoa_len (n : Int) (h : Bd n) : (Lib.itoa n).length ≤ 21 := Lib.itoa_length_le n h.1 h.2
theorem fil_len : ∀ (f : List UInt8) (ns : List Int), (∀ n ∈ ns, Bd n) → (fil f ns).length ≤ f.length * 21
  | [], _, _ => by simp [fil]
  | c :: r, ns, h => by
    unfold fil
    split
    · cases ns with
      | nil => have := fil_len r [] (by simp); simp; omega
      | cons n ms =>
        have := fil_len r ms (fun x hx => h x (List.mem_cons_of_mem _ hx))
        have h2 := itoa_len n (h n (List.mem_cons_self ..))
        simp; omega
    · have := fil_len r ns h; simp; omega
/-- Where the numbers lie that are left. -/
def Left (B : Nat) (W : World) (a : Option Addr) (n c : Nat) (ns : List Int) : Prop := NmAt W a n ns ∧ n ≤ c ∧ ∀ b off, a = some ⟨b, off, none⟩ → b < B
set_option maxHeartbeats 8000000 in
theorem filled_any (s : ByteArray) (a : Option Addr) (n c : Nat) (ns : List Int) (w : World) (E : Env w) (hN : Left w.heap.size w a n c ns) (hb : ∀ x ∈ ns, Bd x) (hz : zer s.data.toList ≤ ns.length) (ha : ∀ x ∈ s.data.toList, x.toNat < 128) (hs : s.size ≤ 1000000) :
    Calls Tryz.prog 28 #[.string s, .slice a n c] w fun e w' => e = .returned (.string ⟨(fil s.data.toList ns ++ [10]).toArray⟩) ∧ Below w.heap.size w w' := by
  have hfl : Hid ((fil s.data.toList ns).length ≤ 21000000) := by
    have h1 := fil_len s.data.toList ns hb
    have h2 : s.data.toList.length = s.size := by simp
    show _ ≤ _
    omega
  have hE := Mr.hid E
  replace hb := Mr.hid hb
  replace hz := Mr.hid hz
  replace ha := Mr.hid ha
  replace hs := Mr.hid hs
  replace hN := Mr.hid hN
  clear E
  go_enter Tryz.func28, Tryz.ntmps28
  go_upto_region 3 with fail
  go_loopw [1] (fun s1 wr => ∃ (pos : Nat) (a1 : Option Addr) (n1 c1 : Nat) (ns1 : List Int) (acc : List UInt8), s1 = .slice a1 n1 c1 ∧ Left w.heap.size wr a1 n1 c1 ns1 ∧ (∀ x ∈ ns1, Bd x) ∧ zer (s.data.toList.drop pos) ≤ ns1.length ∧ Bl w.heap.size w.heap.size acc wr ∧ wr.heap[w.heap.size + 1]? = some (.stringIter s pos) ∧ Below w.heap.size w wr ∧ Env wr ∧ acc ++ fil (s.data.toList.drop pos) ns1 = fil s.data.toList ns) (fun _ wr => s.size - wr.iterPos (w.heap.size + 1))
  case atStart =>
    refine ⟨0, a, n, c, ns, [], rfl, ?_, hb.out, by simpa using hz.out, (Bl.new w).below ((Below.refl _ _).alloc (Nat.le_refl _) _), ?_, ((Below.refl _ w).alloc (Nat.le_refl _) _).alloc (by simp) _, hE.out.below (((Below.refl _ w).alloc (Nat.le_refl _) _).alloc (by simp) _), by simp⟩
    · exact ⟨hN.out.1.below (((Below.refl _ w).alloc (Nat.le_refl _) _).alloc (by simp) _) hN.out.2.2, hN.out.2⟩
    · have := World.iter_heap (w.alloc (.cells #[.pointer none, .slice none 0 0] 67)) s 0
      simpa using this
  case round =>
    obtain ⟨pos, a1, n1, c1, ns1, acc, rfl, hL, hb1, hz1, hI, hit, hbw, hE1, hacc⟩ := hrel
    have hsz : w.heap.size + 1 < wr.heap.size := (Array.getElem?_eq_some_iff.1 hit).1
    have hal : acc.length ≤ 21000000 := by have := hfl.out; rw [← hacc] at this; simp at this; omega
    by_cases hp : pos < s.size
    · have hc := ha.out (s[pos]) (by have := get_drop s pos hp; exact List.mem_of_mem_drop (i := pos) (by rw [this]; exact List.mem_cons_self ..))
      have hnx : ∀ ty, (Instr.next (.pointer (some ⟨w.heap.size + 1, 0, none⟩)) true ty).run Tryz.prog wr = _ := fun ty => Lib.run_next_ascii_at wr (w.heap.size + 1) s pos ty hit hp hc
      have hI2 := hI.iterAt hit (pos + 1)
      have hit2 := Lib.iterAt_heap wr (w.heap.size + 1) s pos (pos + 1) hit
      have hbw2 := Lib.below_iterAt hbw (k := w.heap.size + 1) (by omega) s (pos + 1)
      have hst := Lib.below_iterAt (Below.refl w.heap.size wr) (k := w.heap.size + 1) (by omega) s (pos + 1)
      have hsz2 : w.heap.size ≤ (wr.iterAt (w.heap.size + 1) s (pos + 1)).heap.size := by rw [Lib.iterAt_size]; omega
      have hE2 : Env (wr.iterAt (w.heap.size + 1) s (pos + 1)) := hE.out.below hbw2
      have hL2 : Left w.heap.size (wr.iterAt (w.heap.size + 1) s (pos + 1)) a1 n1 c1 ns1 := ⟨hL.1.below hst hL.2.2, hL.2⟩
      have hgd := get_drop s pos hp
      have hip : ∀ W : World, W.heap[w.heap.size + 1]? = some (.stringIter s (pos + 1)) → s.size - W.iterPos (w.heap.size + 1) < s.size - wr.iterPos (w.heap.size + 1) := by
        intro W hW
        unfold World.iterPos
        rw [hW, hit]
        dsimp only
        omega
      rw [hgd] at hz1 hacc
      clear hL hst hE1 hI hgd hbw
      generalize s[pos] = c at *
      generalize wr.iterAt (w.heap.size + 1) s (pos + 1) = w2 at *
      replace hL2 := Mr.hid hL2
      replace hE2 := Mr.hid hE2
      replace hI2 := Mr.hid hI2
      replace hit2 := Mr.hid hit2
      replace hbw2 := Mr.hid hbw2
      replace hip := Mr.hid hip
      replace hb1 := Mr.hid hb1
      replace hit := Mr.hid hit
      by_cases h48 : c = 48
      · obtain ⟨x, r, rfl⟩ : ∃ x r, ns1 = x :: r := by
          cases ns1 with
          | nil => simp [zer, h48] at hz1
          | cons x r => exact ⟨x, r, rfl⟩
        have hq : Hid (zer (s.data.toList.drop (pos + 1)) ≤ r.length) := by simp [zer, h48] at hz1; show _ ≤ _; omega
        have hacc2 : Hid ((acc ++ Lib.itoa x) ++ fil (s.data.toList.drop (pos + 1)) r = fil s.data.toList ns) := by
          show _ = _
          rw [← hacc]; simp [fil, h48]
        obtain ⟨⟨hnn, hcl⟩, hnc, hab⟩ := hL2.out
        obtain ⟨g, o, rfl, hgl, hcells⟩ := hcl.resolve_left (by simp)
        have cx := hcells 0 x rfl
        rw [Nat.add_zero] at cx
        have hgB := hab g o rfl
        have n1p : 0 < n1 := by rw [hnn]; simp
        have c1p : 1 ≤ c1 := by omega
        have bx := hb1.out x (List.mem_cons_self ..)
        have lx := itoa_len x bx
        subst h48
        clear hz1 hacc hcells hab hcl
        have hnn' := Mr.hid hnn
        clear hnn
        have f1 : ((48 : Int) != 48) = false := by decide
        have esz : (ito x).size = (Lib.itoa x).length := by simp [ito, ByteArray.size]
        have I1 := Mr.hid (itoa_any x w2 bx hE2.out)
        go_upto_region 8 with (first | (go_at_call 44; refine I1.out.mono ?_; clear I1; rintro e w3 ⟨rfl, B3⟩; have S3 := Mr.hid (writeS_any (ito x) w3 (Bl.below hI2.out B3) (by omega) (Nat.le_trans hsz2 B3.size)); replace B3 := Mr.hid B3) | (go_at_call 27; refine S3.out.mono ?_; clear S3; rintro e w4 ⟨⟨nw, rfl⟩, I4, B4, O4⟩; replace B4 := Mr.hid B4; replace O4 := Mr.hid O4; replace I4 := Mr.hid I4))
        have hit3 : w3.heap[w.heap.size + 1]? = some (.stringIter s (pos + 1)) := (B3.out.block _ (Array.getElem?_eq_some_iff.1 hit2.out).1).trans hit2.out
        have hit4 := Mr.hid (O4.out.iter hit3 (by omega))
        have B24 : Hid (Below w.heap.size w2 w4) := (B3.out.mono hsz2).trans B4.out
        have hL4 : Hid (Left w.heap.size w4 (some ⟨g, o, none⟩) n1 c1 (x :: r)) := ⟨hL2.out.1.below B24.out hL2.out.2.2, hL2.out.2⟩
        have hE4 : Hid (Env w4) := hE.out.below (hbw2.out.trans B24.out)
        clear hit3 hnx cx hgl
        go_wp2
        go_roundw
        case rel =>
          refine ⟨pos + 1, if c1 = 1 then some ⟨g, o, none⟩ else some ⟨g, o + 1, none⟩, n1 - 1, c1 - 1, r, acc ++ Lib.itoa x, ?_, ?_, fun y hy => hb1.out y (List.mem_cons_of_mem _ hy), hq.out, ?_, hit4.out, hbw2.out.trans B24.out, hE4.out, hacc2.out⟩
          · rfl
          · have hL := hL4.out
            have e1 := hnn'.out
            simp at e1
            refine ⟨⟨by omega, ?_⟩, by omega, ?_⟩
            · by_cases h1 : c1 = 1
              · left
                exact List.eq_nil_of_length_eq_zero (by omega)
              · rw [if_neg h1]
                obtain ⟨g', o', e2, hg', hc'⟩ := hL.1.2.resolve_left (by simp)
                cases e2
                exact .inr ⟨g, o + 1, rfl, hg', fun j y hy => by have := hc' (j + 1) y (by simpa using hy); rwa [Nat.add_assoc, Nat.add_comm 1 j]⟩
            · intro b off hb'
              split at hb' <;> (cases hb'; exact hgB)
          · have := I4.out; simpa [ito] using this
        case measure => exact hip.out w4 hit4.out
      · have f1 : ((c.toNat : Int) != 48) = true := by
          have : c.toNat ≠ 48 := fun e => h48 (by apply UInt8.toNat_inj.1; simpa using e)
          simp; omega
        have f2 : ((c.toNat : Int) == 48) = false := by
          have : c.toNat ≠ 48 := fun e => h48 (by apply UInt8.toNat_inj.1; simpa using e)
          simp; omega
        have hq : Hid (zer (s.data.toList.drop (pos + 1)) ≤ ns1.length) := by simp [zer, h48] at hz1; exact hz1
        have hacc2 : Hid ((acc ++ [c]) ++ fil (s.data.toList.drop (pos + 1)) ns1 = fil s.data.toList ns) := by
          show _ = _
          rw [← hacc]; simp [fil, h48]
        have S2 := Mr.hid (writeR_any c hc w2 hI2.out (by omega) hsz2)
        clear hz1 hacc hc h48
        generalize (c.toNat : Int) = x at *
        go_wp2_with (go_at_call 43; refine S2.out.mono ?_; clear S2; rintro e w4 ⟨⟨nw, rfl⟩, I4, B4, O4⟩; replace B4 := Mr.hid B4; replace O4 := Mr.hid O4; replace I4 := Mr.hid I4)
        have hit4 := Mr.hid (O4.out.iter hit2.out (by omega))
        go_roundw
        case rel => exact ⟨pos + 1, a1, n1, c1, ns1, acc ++ [c], rfl, ⟨hL2.out.1.below B4.out hL2.out.2.2, hL2.out.2⟩, hb1.out, hq.out, I4.out, hit4.out, hbw2.out.trans B4.out, hE.out.below (hbw2.out.trans B4.out), hacc2.out⟩
        case measure => exact hip.out w4 hit4.out
    · have hnx : ∀ ty, (Instr.next (.pointer (some ⟨w.heap.size + 1, 0, none⟩)) true ty).run Tryz.prog wr = _ := fun ty => Lib.run_next_end_at wr (w.heap.size + 1) s pos ty hit hp
      have hfin : acc = fil s.data.toList ns := by
        have e : s.data.toList.drop pos = [] := List.drop_eq_nil_of_le (by simp; omega)
        rw [e] at hacc
        simpa [fil] using hacc
      have S2 := Mr.hid (string_any wr hI (by omega))
      have hbw' := Mr.hid hbw
      have hts : (⟨acc.toArray⟩ : ByteArray).size ≤ 21000000 := by simpa [ByteArray.size] using hal
      have hcat : Hid ((⟨acc.toArray⟩ : ByteArray) ++ ⟨#[10]⟩ = ⟨(fil s.data.toList ns ++ [10]).toArray⟩) := by
        show _ = _
        rw [← hfin]
        apply ByteArray.ext
        simp
      clear hL hb1 hz1 hI hit hbw hE1 hacc hp hal hfin
      generalize (⟨acc.toArray⟩ : ByteArray) = T at *
      go_wp2_with (go_at_call 30; refine S2.out.mono ?_; clear S2; rintro e w4 ⟨rfl, B4⟩; replace B4 := Mr.hid B4)
      go_ret
      exact ⟨by rw [← hcat.out]; rfl, hbw'.out.trans B4.out⟩
end Go.Proofs.YtcomelbphdjnnaaGreatDoor.Sc
