/- Contract: the reference's Word. -/
import Derived.Test.YtgbnmokajaehhaaDoorNG
namespace Go.Proofs.YtgbnmokajaehhaaDoor
open Go.RowKit Go.Sort
set_option linter.unusedVariables false
theorem piece1 (s : ByteArray) (k : Nat) (h : k < s.size) : s.extract k (k + 1) = bs [s[k]] := by
  apply str_eq
  rw [bs_toList, ByteArray.data_extract, Array.toList_extract]
  show (s.data.toList.drop k).take (k + 1 - k) = _
  have h1 : k < s.data.toList.length := by rw [← blen]; exact h
  rw [List.drop_eq_getElem_cons h1, show k + 1 - k = 1 by omega]
  rfl
theorem hex_piece (d : Nat) (h : d < 16) : (ByteArray.mk #[48, 49, 50, 51, 52, 53, 54, 55, 56, 57, 65, 66, 67, 68, 69, 70]).extract d (d + 1) = bs [hexB d] := by
  rw [piece1 (ByteArray.mk #[48, 49, 50, 51, 52, 53, 54, 55, 56, 57, 65, 66, 67, 68, 69, 70]) d h, hex_at d h]
theorem bs_append (a b : List UInt8) : bs a ++ bs b = bs (a ++ b) := by apply str_eq; rw [toList_append, bs_toList, bs_toList, bs_toList]
set_option maxRecDepth 20000 in
set_option maxHeartbeats 2000000 in
theorem rword_any (s : ByteArray) (h0 : 0 < s.size) (hs : s.size ≤ 1048576) (w : World) : Calls Tryd.prog 12 #[.string s] w fun e w' => e = .returned (.string (bs (wordL s.data.toList))) ∧ Below w.heap.size w w' := by
  have hne : s.toList.isEmpty = false := by rw [ByteArray.toList_eq]; cases hl : s.data.toList with
    | nil => rw [blen, hl] at h0; cases h0
    | cons c l => rfl
  go_enter Tryd.func12, Tryd.ntmps12
  go_wp2
  go_loopw [3, 4] (fun t i wx => ∃ (k : Nat) (x : ByteArray), k ≤ s.size ∧ Hid (x = bs (wordL (s.data.toList.take k))) ∧ Below w.heap.size w wx ∧ t = .string x ∧ i = .int .i64 (k : Int)) (fun _ i _ => s.size - (intOf i).toNat)
  case atStart => exact ⟨0, _, by omega, Lib.hid rfl, below_self _, rfl, rfl⟩
  case round =>
    obtain ⟨k, x, hk, HX, HL, rfl, rfl⟩ := hrel
    clear hne
    have hxs : x.size ≤ 3 * 1048576 := by
      rw [HX.out, bs_size]
      have := (wordL_le (s.data.toList.take k)).2
      simp at this; omega
    by_cases hlt : k < s.size
    · have hts := Lib.hid (take_snoc8 s k hlt)
      have hcl : s[k].toNat < 256 := s[k].toNat_lt
      obtain ⟨c, hc, HC⟩ : ∃ c : Nat, s[k].toNat = c ∧ Hid (s[k].toNat = c) := ⟨_, rfl, Lib.hid rfl⟩
      obtain ⟨lo, hlo⟩ : ∃ b, lowB c = b := ⟨_, rfl⟩
      obtain ⟨up, hup⟩ : ∃ b, uppB c = b := ⟨_, rfl⟩
      obtain ⟨di, hdi⟩ : ∃ b, digB c = b := ⟨_, rfl⟩
      have H1 : Hid (∀ w, Calls Tryd.prog 47 #[.int .u8 (c : Int), .int .u8 97, .int .u8 122] w fun e w' => e = .returned (.bool lo) ∧ w = w') := Lib.hid (by rw [← hlo]; exact between_any c 97 122)
      have H2 : Hid (∀ w, Calls Tryd.prog 47 #[.int .u8 (c : Int), .int .u8 65, .int .u8 90] w fun e w' => e = .returned (.bool up) ∧ w = w') := Lib.hid (by rw [← hup]; exact between_any c 65 90)
      have H3 : Hid (∀ w, Calls Tryd.prog 47 #[.int .u8 (c : Int), .int .u8 48, .int .u8 57] w fun e w' => e = .returned (.bool di) ∧ w = w') := Lib.hid (by rw [← hdi]; exact between_any c 48 57)
      have HB : Hid (plainB c = (lo || up || di || (c == 45) || (c == 95) || (c == 46))) := Lib.hid (by unfold plainB; rw [hlo, hup, hdi])
      have HW := Lib.hid (show wordC s[k] = if plainB c then [s[k]] else [37, hexB (c / 16), hexB (c % 16)] by unfold wordC; rw [HC.out])
      have HS := Lib.hid (piece1 s k hlt)
      clear hlo hup hdi
      rw [hc] at hcl
      have hP : Hid (plainB c = true → x ++ s.extract k (k + 1) = bs (wordL (s.data.toList.take (k + 1)))) := Lib.hid (fun h => by
        rw [hts.out, wordL_snoc, HW.out, h, HS.out, HX.out, bs_append]; rfl)
      cases hpl : plainB c with
      | true =>
        have HP := Lib.hid (hP.out hpl)
        rw [hpl] at HB
        have hB := HB.out
        clear hP HW HS hpl HB
        cases lo
        · cases up
          · cases di
            · have hc3 : c = 45 ∨ c = 95 ∨ c = 46 := by simpa [or_assoc] using hB
              clear hB
              rcases hc3 with h45 | h45 | h45
              · have HC5 := Lib.hid h45
                clear h45
                go_wp2_with fail
                refine (H1.out _).mono ?_
                rintro e w' ⟨rfl, rfl⟩
                go_wp2_with fail
                refine (H2.out _).mono ?_
                rintro e w' ⟨rfl, rfl⟩
                go_wp2_with fail
                refine (H3.out _).mono ?_
                rintro e w' ⟨rfl, rfl⟩
                have h45' : (c : Int) = 45 := by have := HC5.out; omega
                go_wp2
                go_roundw
                case rel => exact ⟨k + 1, _, by omega, HP, HL, rfl, by simp⟩
                case measure => simp [intOf]; omega
              · have HC5 := Lib.hid h45
                clear h45
                go_wp2_with fail
                refine (H1.out _).mono ?_
                rintro e w' ⟨rfl, rfl⟩
                go_wp2_with fail
                refine (H2.out _).mono ?_
                rintro e w' ⟨rfl, rfl⟩
                go_wp2_with fail
                refine (H3.out _).mono ?_
                rintro e w' ⟨rfl, rfl⟩
                have h45' : (c : Int) = 95 := by have := HC5.out; omega
                go_wp2
                go_roundw
                case rel => exact ⟨k + 1, _, by omega, HP, HL, rfl, by simp⟩
                case measure => simp [intOf]; omega
              · have HC5 := Lib.hid h45
                clear h45
                go_wp2_with fail
                refine (H1.out _).mono ?_
                rintro e w' ⟨rfl, rfl⟩
                go_wp2_with fail
                refine (H2.out _).mono ?_
                rintro e w' ⟨rfl, rfl⟩
                go_wp2_with fail
                refine (H3.out _).mono ?_
                rintro e w' ⟨rfl, rfl⟩
                have h45' : (c : Int) = 46 := by have := HC5.out; omega
                go_wp2
                go_roundw
                case rel => exact ⟨k + 1, _, by omega, HP, HL, rfl, by simp⟩
                case measure => simp [intOf]; omega
            · clear hB
              go_wp2_with fail
              refine (H1.out _).mono ?_
              rintro e w' ⟨rfl, rfl⟩
              go_wp2_with fail
              refine (H2.out _).mono ?_
              rintro e w' ⟨rfl, rfl⟩
              go_wp2_with fail
              refine (H3.out _).mono ?_
              rintro e w' ⟨rfl, rfl⟩
              go_wp2
              go_roundw
              case rel => exact ⟨k + 1, _, by omega, HP, HL, rfl, by simp⟩
              case measure => simp [intOf]; omega
          · clear hB
            go_wp2_with fail
            refine (H1.out _).mono ?_
            rintro e w' ⟨rfl, rfl⟩
            go_wp2_with fail
            refine (H2.out _).mono ?_
            rintro e w' ⟨rfl, rfl⟩
            go_wp2
            go_roundw
            case rel => exact ⟨k + 1, _, by omega, HP, HL, rfl, by simp⟩
            case measure => simp [intOf]; omega
        · clear hB
          go_wp2_with fail
          refine (H1.out _).mono ?_
          rintro e w' ⟨rfl, rfl⟩
          go_wp2
          go_roundw
          case rel => exact ⟨k + 1, _, by omega, HP, HL, rfl, by simp⟩
          case measure => simp [intOf]; omega
      | false =>
        rw [hpl] at HB HW
        have hB := HB.out
        obtain ⟨d1, hd1, hd1', hd1'', HD1⟩ : ∃ d : Nat, (c : Int) / 16 = (d : Int) ∧ (d : Int) < 16 ∧ d < 16 ∧ Hid (c / 16 = d) := ⟨c / 16, by omega, by omega, by omega, Lib.hid rfl⟩
        obtain ⟨d2, hd2, hd2', hd2'', HD2⟩ : ∃ d : Nat, (c : Int) % 16 = (d : Int) ∧ (d : Int) < 16 ∧ d < 16 ∧ Hid (c % 16 = d) := ⟨c % 16, by omega, by omega, by omega, Lib.hid rfl⟩
        have e1 : ((d1 : Int) + 1).toNat = d1 + 1 := by omega
        have e2 : ((d2 : Int) + 1).toNat = d2 + 1 := by omega
        have HP : Hid (x ++ ⟨#[37]⟩ ++ (ByteArray.mk #[48, 49, 50, 51, 52, 53, 54, 55, 56, 57, 65, 66, 67, 68, 69, 70]).extract d1 (d1 + 1) ++ (ByteArray.mk #[48, 49, 50, 51, 52, 53, 54, 55, 56, 57, 65, 66, 67, 68, 69, 70]).extract d2 (d2 + 1) = bs (wordL (s.data.toList.take (k + 1)))) := Lib.hid (by
          rw [hts.out, wordL_snoc, HW.out, hex_piece d1 hd1'', hex_piece d2 hd2'', HX.out, HD1.out, HD2.out]
          show bs _ ++ bs [37] ++ _ ++ _ = _
          rw [bs_append, bs_append, bs_append]; simp)
        clear hP HW HS hpl HB
        cases lo
        · cases up
          · cases di
            · have hc3 : Hid (¬ c = 45 ∧ ¬ c = 95 ∧ ¬ c = 46) := Lib.hid (by simpa [not_or, and_assoc] using hB)
              clear hB
              go_wp2_with fail
              refine (H1.out _).mono ?_
              rintro e w' ⟨rfl, rfl⟩
              go_wp2_with fail
              refine (H2.out _).mono ?_
              rintro e w' ⟨rfl, rfl⟩
              go_wp2_with fail
              refine (H3.out _).mono ?_
              rintro e w' ⟨rfl, rfl⟩
              have a1 : ((c : Int) == 45) = false := beq_false_of_ne (by have := hc3.out; omega)
              have a2 : ((c : Int) == 95) = false := beq_false_of_ne (by have := hc3.out; omega)
              have a3 : ((c : Int) == 46) = false := beq_false_of_ne (by have := hc3.out; omega)
              go_wp2_with fail
              go_quiet (fail)
              have HL2 := below_drewN HL nq
              generalize hwq : World.drewN _ nq = wq at HL2 ⊢
              clear hwq HL
              go_wp2
              go_roundw
              case rel => exact ⟨k + 1, _, by omega, HP, HL2, rfl, by simp⟩
              case measure => simp [intOf]; omega
            · simp at hB
          · simp at hB
        · simp at hB
    · obtain rfl : k = s.size := by omega
      have hx2 : x = bs (wordL s.data.toList) := by rw [HX.out, blen, List.take_length]
      have HX2 := Lib.hid hx2
      clear hx2
      go_wp2
      go_ret
      exact ⟨congrArg (fun z => Ending.returned (Value.string z)) HX2.out, HL⟩
end Go.Proofs.YtgbnmokajaehhaaDoor
