import Derived.Test.YtcomelbphdjnnaaGreatDoorJ23
import Derived.Laws.IdiomStrings
import Derived.BigQuiet
import Derived.Deep.DeepCutAuto
/-
  THE DOCUMENT'S Digits and number by their contracts.
-/
namespace Go.Proofs.YtcomelbphdjnnaaGreatDoor.St
open Go.RowKit
open Go.Lib (decDigits)
open Tr
set_option linter.unusedVariables false
theorem hidS {p : Prop} (h : p) : Hid p := h
set_option maxHeartbeats 2000000 in
set_option maxRecDepth 100000 in
theorem digits_any (u : Nat) (w : World) (hu : u < 18446744073709551616) :
    Calls Tryz.prog 31 #[.int .u64 (u : Int)] w fun e w' => e = .returned (.string (dec (u : Int))) ∧ Below w.heap.size w w' := by
  go_enter Tryz.func31, Tryz.ntmps31
  go_wp2
  go_loopg [0, 3] u (fun k s0 s3 wr => ∃ t : List UInt8, s0 = .int .u64 (k : Int) ∧ s3 = .string ⟨t.toArray⟩ ∧ decDigits u = decDigits k ++ t ∧ k < 18446744073709551616 ∧ t.length ≤ 20 ∧ Below w.heap.size w wr)
  case atStart => exact ⟨[], rfl, rfl, by simp, hu, by simp, Below.refl _ _⟩
  case round =>
    obtain ⟨t, rfl, rfl, hd, hk, ht, B⟩ := hrel
    have e1 : (gk : Int).tmod 10 = ((gk % 10 : Nat) : Int) := by rw [Int.tmod_eq_emod_of_nonneg (by omega)]; omega
    have e2 : (gk : Int).tdiv 10 = ((gk / 10 : Nat) : Int) := by rw [Int.tdiv_eq_ediv_of_nonneg (by omega)]; omega
    obtain ⟨d, hdd⟩ : ∃ d, d = gk % 10 := ⟨_, rfl⟩
    obtain ⟨q, hq⟩ : ∃ q, q = gk / 10 := ⟨_, rfl⟩
    have hd10 : d < 10 := by omega
    rw [← hdd] at e1
    rw [← hq] at e2
    have RC : (convert 46 9 (.slice (some ⟨wr.heap.size, 0, none⟩) 1 1)).run Tryz.prog (wr.alloc (.cells #[.int .u8 (48 + (d : Int))] 5)) = .ok (.string ⟨#[UInt8.ofNat (48 + d)]⟩) (wr.alloc (.cells #[.int .u8 (48 + (d : Int))] 5)) :=
      run_convert_bytes_back (P := Tryz.prog) _ 46 9 5 ⟨wr.heap.size, 0, none⟩ 1 [UInt8.ofNat (48 + d)] Tryz.underlying46 Tryz.underlying5 Tryz.underlying9 (fun j hj => by
        obtain rfl : j = 0 := by simpa using hj
        have hh : (wr.alloc (.cells #[.int .u8 (48 + (d : Int))] 5)).cell? ⟨wr.heap.size, 0, none⟩ = some (.int .u8 (48 + (d : Int))) := by rw [World.cell?_alloc_at _ _ _ _ rfl]; rfl
        have ha : (⟨wr.heap.size, 0, none⟩ : Addr).add 0 = ⟨wr.heap.size, 0, none⟩ := rfl
        rw [ha, hh]
        have := dig_nat d hd10
        show some (Value.int .u8 (48 + (d : Int))) = some (.int .u8 ((UInt8.ofNat (48 + d)).toNat : Int))
        rw [this]; rfl)
    obtain ⟨b, hb⟩ : ∃ b, UInt8.ofNat (48 + d) = b := ⟨_, rfl⟩
    rw [hb] at RC
    have hqw : IntKind.u64.wrap (q : Int) = (q : Int) := by unfold IntKind.wrap; simp [IntKind.bits, IntKind.signed]; omega
    have cat : (⟨#[b]⟩ : ByteArray) ++ ⟨t.toArray⟩ = ⟨(b :: t).toArray⟩ := ba_ext (by rw [app_list]; simp)
    have hlen := (dec_len u hu).2
    have hBa : ∀ o, Below w.heap.size w (wr.alloc o) := fun o => B.alloc B.size o
    replace hlen := hidS hlen
    replace cat := hidS cat
    replace hb := hidS hb
    replace hd := hidS hd
    replace hdd := hidS hdd
    replace hq := hidS hq
    replace B := hidS B
    by_cases hq0 : q = 0
    · subst hq0
      go_wp2
      go_ret
      refine ⟨?_, hBa _⟩
      have h1 := hq.out
      have h2 := hdd.out
      have h3 : gk < 10 := by omega
      have h4 := hd.out
      rw [Lib.decDigits_one h3, show gk = d by omega, hb.out] at h4
      show Ending.returned (.string ((⟨#[b]⟩ : ByteArray) ++ ⟨t.toArray⟩)) = _
      rw [cat.out]
      show _ = Ending.returned (.string ⟨(decDigits (u : Int).toNat).toArray⟩)
      rw [Int.toNat_natCast, h4]
      rfl
    · have hqb : ((q : Int) == 0) = false := by simp; omega
      go_wp2
      go_roundg q
      case measure => have := hq.out; omega
      case rel =>
        have h1 := hq.out
        have h2 := hdd.out
        have h4 : decDigits u = decDigits q ++ (b :: t) := by rw [hd.out, dec_step gk t (by omega), ← h2, ← h1, hb.out]
        refine ⟨b :: t, rfl, by rw [cat.out], h4, by omega, ?_, hBa _⟩
        have h5 := hlen.out
        rw [h4] at h5
        simp only [List.length_append] at h5
        omega
end Go.Proofs.YtcomelbphdjnnaaGreatDoor.St
/-
  THE DOCUMENT'S number by its contract.
-/
namespace Go.Proofs.YtcomelbphdjnnaaGreatDoor.St
open Go.RowKit
open Go.Lib (decDigits)
open Tr
set_option linter.unusedVariables false
theorem dec_list (v : Nat) : (dec (v : Int)).data.toList = decDigits v := by show ((decDigits (v : Int).toNat).toArray).toList = _; simp
theorem sz_list (s : ByteArray) : s.size = s.data.toList.length := by rw [Array.length_toList]; rfl
theorem at_list (s : ByteArray) (i : Nat) (h : i < s.size) : s.data.toList[i]'(by rw [← sz_list]; exact h) = s[i] := by rw [Array.getElem_toList]; rfl
def NotNum (s : ByteArray) (M : Nat) : Prop := ∀ v : Nat, v ≤ M → s ≠ dec (v : Int)
theorem not_empty (s : ByteArray) (M : Nat) (hM : M < 18446744073709551616) (h : s.size = 0 ∨ 20 < s.size) : NotNum s M := fun v hv e => by
  have := dec_len v (by omega)
  rw [e, sz_list, dec_list] at h
  omega
theorem not_zero (s : ByteArray) (M : Nat) (h1 : 1 < s.size) (h : s[0].toNat = 48) : NotNum s M := fun v hv e => by
  have hl : s.data.toList = decDigits v := by rw [e, dec_list]
  have hz := sz_list s
  rw [hl] at hz
  have h2 := dec_zero_head v (by omega)
  have h3 := at_list s 0 (by omega)
  apply h2
  rw [← hl, List.head?_eq_getElem?, List.getElem?_eq_getElem (by rw [← sz_list]; omega), h3]
  congr 1
  exact UInt8.toNat_inj.1 (by rw [h]; rfl)
theorem not_digit (s : ByteArray) (M i : Nat) (hi : i < s.size) (h : s[i].toNat < 48 ∨ 57 < s[i].toNat) : NotNum s M := fun v hv e => by
  have hl : s.data.toList = decDigits v := by rw [e, dec_list]
  have h3 := at_list s i hi
  have hm : s[i] ∈ decDigits v := by rw [← hl, ← h3]; exact List.getElem_mem _
  have := dec_digs v _ hm
  omega
theorem take_val (s : ByteArray) (i : Nat) (hi : i < s.size) : val (s.data.toList.take (i + 1)) = val (s.data.toList.take i) * 10 + (s[i].toNat - 48) := by
  rw [← val_snoc, ← at_list s i hi]
  congr 1
  rw [List.take_add_one, List.getElem?_eq_getElem (by rw [← sz_list]; exact hi)]
  rfl
theorem not_great (s : ByteArray) (M i : Nat) (hi : i < s.size) (h : M < val (s.data.toList.take i) * 10 + (s[i].toNat - 48)) : NotNum s M := fun v hv e => by
  have hl : s.data.toList = decDigits v := by rw [e, dec_list]
  have h1 := val_take_le s.data.toList (i + 1)
  rw [take_val s i hi, hl, val_dec] at h1
  rw [hl] at h
  omega
theorem take_dig (s : ByteArray) (i : Nat) (hi : i < s.size) (hd : ∀ b ∈ s.data.toList.take i, 48 ≤ b.toNat ∧ b.toNat ≤ 57) (h : 48 ≤ s[i].toNat ∧ s[i].toNat ≤ 57) : ∀ b ∈ s.data.toList.take (i + 1), 48 ≤ b.toNat ∧ b.toNat ≤ 57 := by
  rw [List.take_add_one, List.getElem?_eq_getElem (by rw [← sz_list]; exact hi), at_list s i hi]
  intro b hb
  rcases List.mem_append.1 hb with hb | hb
  · exact hd b hb
  · simp at hb
    rw [hb]; exact h
theorem is_dec (s : ByteArray) (hd : ∀ b ∈ s.data.toList, 48 ≤ b.toNat ∧ b.toNat ≤ 57) (h0 : s.size ≠ 0) (hz : s.size = 1 ∨ (1 < s.size ∧ ∀ h : 0 < s.size, s[0].toNat ≠ 48)) : s = dec (val s.data.toList : Int) := by
  refine ba_ext ?_
  rw [dec_list, dec_val _ hd (fun e => h0 (by rw [sz_list, e]; rfl)) ?_]
  rcases hz with hz | ⟨h1, h2⟩
  · exact .inl (by rw [← sz_list]; exact hz)
  · refine .inr (fun e => h2 (by omega) ?_)
    rw [List.head?_eq_getElem?, List.getElem?_eq_getElem (by rw [← sz_list]; omega), at_list s 0 (by omega)] at e
    rw [Option.some.inj e]; rfl
set_option maxHeartbeats 2000000 in
set_option maxRecDepth 100000 in
theorem num_any (s : ByteArray) (M : Nat) (w : World) (hM : M < 18446744073709551616) :
    Calls Tryz.prog 72 #[.string s, .int .u64 (M : Int)] w fun e w' => w' = w ∧ ((∃ v : Nat, v ≤ M ∧ s = dec (v : Int) ∧ e = .returned (.tuple #[.int .u64 (v : Int), .bool true])) ∨ (NotNum s M ∧ e = .returned (.tuple #[.int .u64 0, .bool false]))) := by
  by_cases hA : s.size = 0
  · have hN := not_empty s M hM (.inl hA)
    have h1 : ((s.size : Int) == 0) = true := by rw [hA]; rfl
    replace hN := hidS hN
    clear hA
    go_enter Tryz.func72, Tryz.ntmps72
    go_wp2
    go_ret2
    exact ⟨rfl, .inr ⟨hN.out, rfl⟩⟩
  have h1 : ((s.size : Int) == 0) = false := beq_eq_false_iff_ne.2 (by omega)
  by_cases hB : 20 < s.size
  · have hN := not_empty s M hM (.inr hB)
    have h2 : decide (20 < (s.size : Int)) = true := by simp; omega
    replace hN := hidS hN
    clear hA hB
    go_enter Tryz.func72, Tryz.ntmps72
    go_wp2
    go_ret2
    exact ⟨rfl, .inr ⟨hN.out, rfl⟩⟩
  have h2 : decide (20 < (s.size : Int)) = false := by simp; omega
  have h0 : 0 < s.size := by omega
  by_cases hC : 1 < s.size ∧ s[0].toNat = 48
  · have hN := not_zero s M hC.1 hC.2
    have h3 : decide (1 < (s.size : Int)) = true := by simp; omega
    have h4 : ((s[0].toNat : Int) == 48) = true := by simp; omega
    replace hN := hidS hN
    clear hA hB hC
    go_enter Tryz.func72, Tryz.ntmps72
    go_wp2
    go_ret2
    exact ⟨rfl, .inr ⟨hN.out, rfl⟩⟩
  have hz : s.size = 1 ∨ (1 < s.size ∧ ∀ h : 0 < s.size, s[0].toNat ≠ 48) := by
    by_cases h : s.size = 1
    · exact .inl h
    · exact .inr ⟨by omega, fun _ e => hC ⟨by omega, e⟩⟩
  go_enter Tryz.func72, Tryz.ntmps72
  go_upto_region 1 with fail
  go_cut [26] (fun t wx => t = .bool false ∧ wx = w)
  case first =>
    rcases hz with hz | ⟨hz, h48⟩
    · have h3 : decide (1 < (s.size : Int)) = false := by simp; omega
      clear hA hB hC hz
      go_wp2
      go_meet
      case rel => exact ⟨rfl, rfl⟩
    · have h3 : decide (1 < (s.size : Int)) = true := by simp; omega
      have h4 : ((s[0].toNat : Int) == 48) = false := by have := h48 h0; simp; omega
      clear hA hB hC hz h48
      go_wp2
      go_meet
      case rel => exact ⟨rfl, rfl⟩
  case rest =>
    obtain ⟨rfl, hw⟩ := hcut
    obtain rfl := hw.symm
    have hs20 : s.size ≤ 20 := by omega
    clear h1 h2 hC hB
    go_wp2
    go_loopg [6, 7] s.size (fun k s6 s7 wy => ∃ i : Nat, s7 = .int .i64 (i : Int) ∧ i + k = s.size ∧ s6 = .int .u64 (val (s.data.toList.take i) : Int) ∧ (∀ b ∈ s.data.toList.take i, 48 ≤ b.toNat ∧ b.toNat ≤ 57) ∧ val (s.data.toList.take i) ≤ M ∧ wy = w)
    case atStart => exact ⟨0, rfl, by omega, rfl, by simp, Nat.zero_le _, rfl⟩
    case round =>
      obtain ⟨i, rfl, hi, rfl, hdg, hle, rfl⟩ := hrel
      by_cases hlt : i < s.size
      · have hND := not_digit s M i hlt
        have hNG := not_great s M i hlt
        have hTV := take_val s i hlt
        have hTD := take_dig s i hlt hdg
        have l1 : decide ((i : Int) < (s.size : Int)) = true := by simp; omega
        have l2 : decide (i < s.size) = true := by simp; omega
        have hc256 : s[i].toNat < 256 := UInt8.toNat_lt _
        generalize val (s.data.toList.take i) = n at *
        obtain ⟨c, hc⟩ : ∃ c, s[i].toNat = c := ⟨_, rfl⟩
        rw [hc] at hND hNG hTV hTD hc256
        replace hND := hidS hND
        replace hNG := hidS hNG
        replace hTV := hidS hTV
        replace hTD := hidS hTD
        replace hdg := hidS hdg
        replace hz := hidS hz
        clear hA
        by_cases hd1 : c < 48
        · have q1 : decide ((c : Int) < 48) = true := by simp; omega
          have hN := hND.out (.inl hd1)
          replace hN := hidS hN
          go_wp2
          go_ret2
          exact ⟨rfl, .inr ⟨hN.out, rfl⟩⟩
        · have q1 : decide ((c : Int) < 48) = false := by simp; omega
          by_cases hd2 : 57 < c
          · have q2 : decide (57 < (c : Int)) = true := by simp; omega
            have hN := hND.out (.inr hd2)
            replace hN := hidS hN
            go_wp2
            go_ret2
            exact ⟨rfl, .inr ⟨hN.out, rfl⟩⟩
          · have q2 : decide (57 < (c : Int)) = false := by simp; omega
            obtain ⟨d, hd⟩ : ∃ d, d = c - 48 := ⟨_, rfl⟩
            have hcd : (c : Int) - 48 = (d : Int) := by omega
            have hd9 : d ≤ 9 := by omega
            have w8 : IntKind.u8.wrap (d : Int) = (d : Int) := by unfold IntKind.wrap; simp [IntKind.bits, IntKind.signed]; omega
            have w64 : IntKind.u64.wrap (d : Int) = (d : Int) := by unfold IntKind.wrap; simp [IntKind.bits, IntKind.signed]; omega
            replace hd := hidS hd
            by_cases hg1 : M < d
            · have q3 : decide ((M : Int) < (d : Int)) = true := by simp; omega
              have q3' : decide (M < d) = true := by simp; omega
              have hN := hNG.out (by have := hd.out; omega)
              replace hN := hidS hN
              go_wp2
              go_ret2
              exact ⟨rfl, .inr ⟨hN.out, rfl⟩⟩
            · have q3 : decide ((M : Int) < (d : Int)) = false := by simp; omega
              have q3' : decide (M < d) = false := by simp; omega
              have hmd : (M : Int) - (d : Int) = ((M - d : Nat) : Int) := by omega
              have wmd : IntKind.u64.wrap ((M - d : Nat) : Int) = ((M - d : Nat) : Int) := by unfold IntKind.wrap; simp [IntKind.bits, IntKind.signed]; omega
              obtain ⟨g, hg⟩ : ∃ g, g = (M - d) / 10 := ⟨_, rfl⟩
              have hgd : ((M - d : Nat) : Int).tdiv 10 = (g : Int) := by rw [Int.tdiv_eq_ediv_of_nonneg (by omega)]; omega
              have wg : IntKind.u64.wrap (g : Int) = (g : Int) := by unfold IntKind.wrap; simp [IntKind.bits, IntKind.signed]; omega
              replace hg := hidS hg
              by_cases hg2 : g < n
              · have q4 : decide ((g : Int) < (n : Int)) = true := by simp; omega
                have q4' : decide (g < n) = true := by simp; omega
                have hN := hNG.out (by have := hd.out; have := hg.out; omega)
                replace hN := hidS hN
                go_wp2
                go_ret2
                exact ⟨rfl, .inr ⟨hN.out, rfl⟩⟩
              · have q4 : decide ((g : Int) < (n : Int)) = false := by simp; omega
                have q4' : decide (g < n) = false := by simp; omega
                have hnM : n * 10 + d ≤ M := by have := hg.out; omega
                have w10 : IntKind.u64.wrap ((n : Int) * 10) = (n : Int) * 10 := by unfold IntKind.wrap; simp [IntKind.bits, IntKind.signed]; omega
                have wn : IntKind.u64.wrap ((n : Int) * 10 + (d : Int)) = (n : Int) * 10 + (d : Int) := by unfold IntKind.wrap; simp [IntKind.bits, IntKind.signed]; omega
                replace hnM := hidS hnM
                go_wp2
                go_roundg (gk - 1)
                case measure => omega
                case rel => exact ⟨i + 1, by simp, by omega, by rw [hTV.out, ← hd.out, Int.natCast_add, Int.natCast_mul]; rfl, hTD.out (by omega), by rw [hTV.out, ← hd.out]; exact hnM.out, rfl⟩
      · have hie : i = s.size := by omega
        have hl : s.data.toList.take i = s.data.toList := by rw [hie, sz_list, List.take_length]
        rw [hl] at hdg hle ⊢
        have hs := is_dec s hdg (by omega) hz
        have l1 : decide ((i : Int) < (s.size : Int)) = false := by simp; omega
        have l2 : decide (i < s.size) = false := by simp; omega
        replace hs := hidS hs
        generalize val s.data.toList = n at *
        clear hz hdg hl hie hA
        go_wp2
        go_ret2
        exact ⟨rfl, .inl ⟨n, hle, hs.out, rfl⟩⟩
end Go.Proofs.YtcomelbphdjnnaaGreatDoor.St
